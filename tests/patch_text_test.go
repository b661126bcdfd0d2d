package tests

import (
	"fmt"
	"slices"
	"strings"
	"testing"

	"loop.example/g00606/impl"
)

// allWords are the words of at most n of these letters.
func allWords(letters string, n int) []string {
	var words []string
	wordsUpTo(letters, n, func(word string) { words = append(words, word) })
	return words
}

// P15: the differences of all short texts.
func TestDifferencesOfAllShortTexts(t *testing.T) {
	for _, words := range [][]string{allWords("ab", 5), allWords("abc", 3), allWords("\x00\xff<&", 2), allWords("a", 12)} {
		for _, a := range words {
			for _, b := range words {
				wantOneDiff(t, a, b)
			}
		}
	}
}

// P15: the differences of texts of marks of every kind, long ones among them.
func TestDifferencesOfTextsOfManyKinds(t *testing.T) {
	texts := lexTexts()
	for i, a := range texts {
		for step := range 9 {
			wantDiff(t, a, texts[(i+step*step*7)%len(texts)])
		}
	}
	for seed := range uint32(1500) {
		wantDiff(t, mixedText(int(seed%20), seed*31), mixedText(int(seed%23), seed*17+3))
	}
}

// P15: a text and the same one with a change in it, at every place.
func TestDifferencesOfATextThatIsChanged(t *testing.T) {
	for _, text := range []string{"abcabc", "aaaaaa", "ababab", "<b>x</b>", "a<p><p>b"} {
		for _, e := range allEdits(len(text), "", "a", "b", "ab", "ba", "aa", "<", "<p>", text) {
			wantDiff(t, text, text[:e.at]+e.put+text[e.at+e.n:])
		}
	}
	for seed := range uint32(600) {
		text := mixedText(int(seed%25), seed*7)
		at := int(seed*131) % (len(text) + 1)
		n := min(int(seed%6), len(text)-at)
		wantDiff(t, text, text[:at]+mixedText(int(seed%3), seed)+text[at+n:])
	}
}

// P15: of what is shown ahead of an edit and behind it, one patch leads from the one to the other one.
func TestDifferencesOfWhatIsShown(t *testing.T) {
	policy := impl.Policy{Tags: []string{"b", "i", "p"}}
	for seed := range uint32(300) {
		text := mixedText(int(seed%9), seed*19)
		at := int64(seed*131) % int64(len(text)+1)
		edited := impl.SpliceBytes([]byte(text), at, 0, []byte(markPuts()[seed%uint32(len(markPuts()))]))
		before, after := impl.SanitizeText(policy, []byte(text)), impl.SanitizeText(policy, edited.Bytes)
		wantDiff(t, string(before.Bytes), string(after.Bytes))
	}
}

// P15: differences one behind the other lead from text to text.
func TestDifferencesOneBehindTheOther(t *testing.T) {
	for seed := range uint32(40) {
		shown := ""
		for turn := range uint32(20) {
			next := mixedText(int((seed+turn)%15), seed*977+turn*131)
			shown = string(impl.ApplyPatches([]byte(shown), wantOneDiff(t, shown, next).Patches).Bytes)
			if shown != next {
				t.Fatalf("got %q, want %q", shown, next)
			}
		}
	}
}

// everyPatch tells each list of at most n patches without a fault for a text of so many bytes, that puts these.
func everyPatch(size int64, n int, puts []string, tell func(list []impl.Patch)) {
	var grow func(list []impl.Patch, free int64)
	grow = func(list []impl.Patch, free int64) {
		tell(list)
		if len(list) == n {
			return
		}
		for at := free; at <= size; at++ {
			for cut := range size - at + 1 {
				for _, put := range puts {
					grow(append(slices.Clone(list), patch(at, cut, put)), at+cut)
				}
			}
		}
	}
	grow(nil, 0)
}

// P15: all short lists of patches of short texts: each is done in its place, and all else stays.
func TestAllShortListsOfPatches(t *testing.T) {
	for _, text := range []string{"", "a", "ab", "abc", "aaa", "abcd"} {
		told := 0
		everyPatch(int64(len(text)), 2, []string{"", "x", "ba"}, func(list []impl.Patch) {
			told++
			if got := wantPatched(t, text, list); got.Code != impl.OK {
				t.Errorf("ApplyPatches of %q by %s: got code %d", text, briefPatches(list), got.Code)
			}
		})
		if told < 10 {
			t.Errorf("of %q there are %d lists alone", text, told)
		}
	}
	everyPatch(2, 3, []string{"", "x"}, func(list []impl.Patch) { wantPatched(t, "ab", list) })
}

// P15: patches by chance, few and many, of texts of all sizes.
func TestPatchesByChance(t *testing.T) {
	for seed := range uint32(3000) {
		text := mixedText(int(seed%20), seed*31)
		list := somePatches(int(seed%21), int64(len(text)), seed*13)
		if got := wantPatched(t, text, list); got.Code != impl.OK {
			t.Errorf("%s: got code %d", briefPatches(list), got.Code)
		}
	}
	for seed := range uint32(100) {
		text := string(filled(int(seed) * 20))
		wantPatched(t, text, somePatches(20, int64(len(text)), seed))
	}
}

// P15: patches at once are what each of them is alone, the last one first, so that the places of the others stay.
func TestPatchesAtOnceAndOneByOne(t *testing.T) {
	for seed := range uint32(1000) {
		text := mixedText(int(seed%15), seed*7)
		list := somePatches(int(seed%21), int64(len(text)), seed*3)
		alone := []byte(text)
		for i := len(list) - 1; i >= 0; i-- {
			alone = impl.ApplyPatches(alone, list[i:i+1]).Bytes
		}
		wantTold(t, fmt.Sprintf("%q by %s", text, briefPatches(list)), impl.ApplyPatches([]byte(text), list), impl.BytesResult{Bytes: alone})
	}
}

// P15: how many bytes there are behind patches is how many there were, less the cut ones, and those that they put.
func TestSizesBehindPatches(t *testing.T) {
	for seed := range uint32(500) {
		text := strings.Repeat("abcdef", int(seed%200))
		list := somePatches(int(seed%21), int64(len(text)), seed)
		cut := int64(0)
		for _, p := range list {
			cut += p.Cut
		}
		got := impl.ApplyPatches([]byte(text), list)
		if want := int64(len(text)) - cut + impl.PatchSize(list).Value; got.Code != impl.OK || int64(len(got.Bytes)) != want {
			t.Errorf("%d bytes by %s: got code %d, %d bytes, want %d", len(text), briefPatches(list), got.Code, len(got.Bytes), want)
		}
	}
}
