package tests

import (
	"bytes"
	"fmt"
	"slices"
	"strings"
	"testing"

	"loop.example/g00606/impl"
)

// toldDiff is a difference that is told.
type toldDiff struct {
	a   string
	b   string
	at  int64
	cut int64
	put string
}

// wantToldDiffs holds differences against what is told, and against the document, there and back.
func wantToldDiffs(t *testing.T, all ...toldDiff) {
	t.Helper()
	for _, d := range all {
		got := impl.DiffText([]byte(d.a), []byte(d.b))
		wantPatches(t, fmt.Sprintf("DiffText of %.250q and %.250q", d.a, d.b), got, impl.PatchesResult{Patches: patches(patch(d.at, d.cut, d.put))})
		wantDiff(t, d.a, d.b)
	}
}

// Texts whose beginning and end have nothing to do with one another.
func TestDifferencesThatAreTold(t *testing.T) {
	wantToldDiffs(t,
		toldDiff{"abc", "axc", 1, 1, "x"}, toldDiff{"abc", "axxc", 1, 1, "xx"}, toldDiff{"abc", "xbc", 0, 1, "x"}, toldDiff{"abc", "abx", 2, 1, "x"},
		toldDiff{"abc", "xyz", 0, 3, "xyz"}, toldDiff{"abc", "xay", 0, 3, "xay"}, toldDiff{"abc", "bca", 0, 3, "bca"}, toldDiff{"abc", "cba", 0, 3, "cba"}, toldDiff{"abcd", "axdx", 1, 3, "xdx"},
		toldDiff{"<b>x</b>", "<i>x</i>", 1, 6, "i>x</i"}, toldDiff{"<p>a</p>", "<p>b</p>", 3, 1, "b"}, toldDiff{"a&lt;b", "a&gt;b", 2, 1, "g"},
		toldDiff{"\x00\xff", "\x00\x00\xff", 1, 0, "\x00"}, toldDiff{"\xff", "\x00", 0, 1, "\x00"}, toldDiff{"a\nb", "a b", 1, 1, " "},
	)
}

// Where the beginning that both have and the end that both have would overlap, the beginning is as great as may be, and the end is of what is left.
func TestEndsThatMeet(t *testing.T) {
	wantToldDiffs(t,
		// Runs of one byte.
		toldDiff{"aa", "aaa", 2, 0, "a"}, toldDiff{"aaa", "aa", 2, 1, ""}, toldDiff{"a", "aaaa", 1, 0, "aaa"}, toldDiff{"aaaa", "a", 1, 3, ""}, toldDiff{"\x00", "\x00\x00", 1, 0, "\x00"}, toldDiff{"\x00\x00", "\x00", 1, 1, ""},
		toldDiff{"aaba", "aaa", 2, 1, ""}, toldDiff{"aba", "a", 1, 2, ""}, toldDiff{"a", "aba", 1, 0, "ba"}, toldDiff{"aba", "aa", 1, 1, ""}, toldDiff{"aba", "ababa", 3, 0, "ba"}, toldDiff{"ababa", "aba", 3, 2, ""},
		// A text within the other one: at its beginning, at its end, between, and at both ends of it.
		toldDiff{"ab", "abc", 2, 0, "c"}, toldDiff{"bc", "abc", 0, 0, "a"}, toldDiff{"b", "abc", 0, 1, "abc"}, toldDiff{"ac", "abc", 1, 0, "b"}, toldDiff{"abc", "ac", 1, 1, ""}, toldDiff{"abc", "b", 0, 3, "b"}, toldDiff{"abc", "c", 0, 2, ""},
		toldDiff{"ab", "abxab", 2, 0, "xab"}, toldDiff{"abxab", "ab", 2, 3, ""}, toldDiff{"aab", "aaab", 2, 0, "a"}, toldDiff{"abb", "abbb", 3, 0, "b"}, toldDiff{"baa", "baaa", 3, 0, "a"},
		// One text twice the other one, or three times.
		toldDiff{"ab", "abab", 2, 0, "ab"}, toldDiff{"abab", "ab", 2, 2, ""}, toldDiff{"abc", "abcabc", 3, 0, "abc"}, toldDiff{"abcabc", "abc", 3, 3, ""}, toldDiff{"aa", "aaaa", 2, 0, "aa"}, toldDiff{"ab", "ababab", 2, 0, "abab"}, toldDiff{"abab", "ababab", 4, 0, "ab"},
		// What is left of one of both ends ahead of that of the other one.
		toldDiff{"abcab", "abab", 2, 1, ""}, toldDiff{"abab", "abcab", 2, 0, "c"}, toldDiff{"abcabc", "abcbc", 3, 1, ""}, toldDiff{"xaax", "xax", 2, 1, ""}, toldDiff{"xaay", "xaaay", 3, 0, "a"}, toldDiff{"xyxy", "xyx", 3, 1, ""}, toldDiff{"yxyx", "xyx", 0, 1, ""},
		toldDiff{"<p><p>", "<p>", 3, 3, ""}, toldDiff{"<p>a<p>", "<p>", 3, 4, ""}, toldDiff{"<p>a</p>", "<p>a</p><p>b</p>", 8, 0, "<p>b</p>"}, toldDiff{"<p>b</p>", "<p>a</p><p>b</p>", 3, 0, "a</p><p>"},
	)
	for n := range 40 {
		for m := range 40 {
			if n == m {
				continue
			}
			a, b := strings.Repeat("a", n), strings.Repeat("a", m)
			wantToldDiffs(t, toldDiff{a, b, int64(min(n, m)), int64(max(n-m, 0)), strings.Repeat("a", max(m-n, 0))})
		}
	}
}

// One text twice the other one, and one within the other one, of many kinds.
func TestTextsWithinOneAnother(t *testing.T) {
	for seed := range uint32(400) {
		text := mixedText(int(seed%7)+1, seed*23)
		if len(text) > 80 {
			text = text[:80]
		}
		for _, other := range []string{text + text, text + text + text, text + "x" + text, "x" + text, text + "x", "x" + text + "x", text[:len(text)/2] + text, text + text[len(text)/2:]} {
			wantDiff(t, text, other)
		}
		wantToldDiffs(t, toldDiff{text, text + text, int64(len(text)), 0, text}, toldDiff{text + text, text, int64(len(text)), int64(len(text)), ""})
	}
}

// Of like texts there is no patch, and of all others there is one, whatever else they have.
func TestLikeTexts(t *testing.T) {
	for _, text := range append(lexTexts(), "", "a", "aa", "\x00", strings.Repeat("a", 239), strings.Repeat("a", 240), string(filled(240))) {
		wantPatches(t, fmt.Sprintf("DiffText of %.80q and itself", text), impl.DiffText([]byte(text), []byte(text)), impl.PatchesResult{})
		shared := []byte(text)
		wantPatches(t, fmt.Sprintf("DiffText of %.80q and itself, in one memory", text), impl.DiffText(shared, shared), impl.PatchesResult{})
		wantTold(t, "ApplyPatches of none", impl.ApplyPatches([]byte(text), nil), impl.BytesResult{Bytes: []byte(text)})
	}
	for _, a := range nothings[byte]() {
		for _, b := range nothings[byte]() {
			wantPatches(t, "DiffText of nothing and nothing", impl.DiffText(a, b), impl.PatchesResult{})
		}
	}
}

// Texts that differ in one byte, at each place: it alone is cut, and put.
func TestTextsThatDifferInOneByte(t *testing.T) {
	for _, size := range []int{1, 2, 3, 7, 100, 239, 240} {
		for _, data := range [][]byte{filled(size), bytes.Repeat([]byte("a"), size), make([]byte, size)} {
			for at := range data {
				turned := slices.Clone(data)
				turned[at] ^= 0x80
				wantToldDiffs(t, toldDiff{string(data), string(turned), int64(at), 1, string(turned[at : at+1])})
			}
		}
	}
}

// Texts of no bytes, and of some: all is put, or cut.
func TestTextsOfNoBytes(t *testing.T) {
	for _, text := range []string{"a", "aa", "\x00", "<b>", strings.Repeat("x", 240), string(filled(240))} {
		wantToldDiffs(t, toldDiff{"", text, 0, 0, text}, toldDiff{text, "", 0, int64(len(text)), ""})
	}
}

// toldPatches are patches with what they lead to, told.
type toldPatches struct {
	data string
	list []impl.Patch
	out  string
}

func wantToldPatches(t *testing.T, all ...toldPatches) {
	t.Helper()
	for _, c := range all {
		wantTold(t, fmt.Sprintf("ApplyPatches of %q by %s", c.data, briefPatches(c.list)), impl.ApplyPatches([]byte(c.data), c.list), impl.BytesResult{Bytes: []byte(c.out)})
		wantPatched(t, c.data, c.list)
	}
}

// Each Put stands in the place of its Cut, and places are those of the text that there was.
func TestPatchesInTheirPlaces(t *testing.T) {
	wantToldPatches(t,
		toldPatches{"abc", nil, "abc"}, toldPatches{"", nil, ""}, toldPatches{"", patches(patch(0, 0, "x")), "x"}, toldPatches{"", patches(patch(0, 0, "")), ""},
		toldPatches{"abc", patches(patch(0, 3, "")), ""}, toldPatches{"abc", patches(patch(0, 3, "xyzw")), "xyzw"}, toldPatches{"abc", patches(patch(3, 0, "x")), "abcx"}, toldPatches{"abc", patches(patch(0, 0, "x")), "xabc"}, toldPatches{"abc", patches(patch(1, 1, "x")), "axc"},
		toldPatches{"abcdef", patches(patch(0, 1, "12"), patch(3, 2, ""), patch(6, 0, "3")), "12bcf3"}, toldPatches{"abcdef", patches(patch(1, 0, "xyz"), patch(4, 1, "w")), "axyzbcdwf"}, toldPatches{"abcdef", patches(patch(1, 3, ""), patch(5, 1, "x")), "aex"},
		// A patch that puts what it cuts, and one that does nothing, leave all as it was.
		toldPatches{"abc", patches(patch(1, 1, "b")), "abc"}, toldPatches{"abc", patches(patch(0, 3, "abc")), "abc"}, toldPatches{"abc", patches(patch(0, 0, ""), patch(2, 0, ""), patch(3, 0, "")), "abc"},
		toldPatches{"\x00\xff\n", patches(patch(1, 1, "\x00\x00")), "\x00\x00\x00\n"},
	)
	// More than MaxOut bytes stay as they are, ahead of patches and behind them.
	data := string(filled(2000))
	wantToldPatches(t, toldPatches{data, nil, data}, toldPatches{data, patches(patch(700, 3, "xyz")), data[:700] + "xyz" + data[703:]}, toldPatches{data, patches(patch(0, 2000, "")), ""}, toldPatches{data, patches(patch(1999, 1, "x"), patch(2000, 0, "")), data[:1999] + "x"})
}

// Patches that meet: of no Cut, of no Put, of neither, and two or more at one place, in their order.
func TestPatchesThatMeet(t *testing.T) {
	wantToldPatches(t,
		toldPatches{"abc", patches(patch(0, 1, ""), patch(1, 0, "z"), patch(2, 1, "y")), "zby"},
		toldPatches{"abc", patches(patch(0, 1, "x"), patch(1, 1, "y"), patch(2, 1, "z")), "xyz"}, toldPatches{"abc", patches(patch(0, 1, ""), patch(1, 1, ""), patch(2, 1, "")), ""}, toldPatches{"abc", patches(patch(0, 2, "x"), patch(2, 1, "yz")), "xyz"},
		toldPatches{"abc", patches(patch(1, 0, "x"), patch(1, 0, "y")), "axybc"}, toldPatches{"abc", patches(patch(1, 0, "y"), patch(1, 0, "x")), "ayxbc"}, toldPatches{"abc", patches(patch(1, 0, "x"), patch(1, 1, "y")), "axyc"}, toldPatches{"abc", patches(patch(1, 0, "x"), patch(1, 1, "")), "axc"},
		toldPatches{"abc", patches(patch(1, 1, "x"), patch(2, 0, "y")), "axyc"}, toldPatches{"abc", patches(patch(1, 1, ""), patch(2, 0, "")), "ac"}, toldPatches{"abc", patches(patch(1, 0, ""), patch(1, 0, ""), patch(1, 1, "")), "ac"}, toldPatches{"abc", patches(patch(1, 0, ""), patch(1, 0, "x"), patch(1, 0, ""), patch(1, 0, "y")), "axybc"},
		toldPatches{"abc", patches(patch(3, 0, "x"), patch(3, 0, "y")), "abcxy"}, toldPatches{"abc", patches(patch(2, 1, "x"), patch(3, 0, "y")), "abxy"}, toldPatches{"abc", patches(patch(0, 0, "x"), patch(0, 3, "y"), patch(3, 0, "z")), "xyz"}, toldPatches{"", patches(patch(0, 0, "x"), patch(0, 0, "y"), patch(0, 0, "z")), "xyz"},
	)
	var meeting []impl.Patch
	for place := range int64(20) {
		meeting = append(meeting, patch(place, 1, strings.Repeat("x", int(place))))
	}
	wantToldPatches(t, toldPatches{strings.Repeat("a", 21), meeting, strings.Repeat("x", 190) + "a"})
}

// Bytes that are put are never asked again: no patch cuts what another one put.
func TestPutsAreNotCut(t *testing.T) {
	wantToldPatches(t, toldPatches{"aaaa", patches(patch(0, 0, "aaaa"), patch(0, 4, "")), "aaaa"}, toldPatches{"abab", patches(patch(0, 2, "abab"), patch(2, 2, "")), "abab"}, toldPatches{"xy", patches(patch(0, 1, "yy"), patch(1, 1, "xx")), "yyxx"})
}

// Lists of patches are the same where At, Cut and Put of each are, in their order.
func TestSamePatches(t *testing.T) {
	lists := [][]impl.Patch{
		nil, patches(patch(0, 0, "")), patches(patch(0, 0, ""), patch(0, 0, "")), patches(patch(1, 2, "xy")), patches(patch(2, 2, "xy")), patches(patch(1, 3, "xy")), patches(patch(1, 2, "xz")), patches(patch(1, 2, "x")), patches(patch(1, 2, "xyz")), patches(patch(1, 2, "")), patches(patch(2, 1, "xy")),
		patches(patch(1, 2, "xy"), patch(3, 0, "z")), patches(patch(1, 2, "xy"), patch(4, 0, "z")), patches(patch(1, 2, "xy"), patch(3, 1, "z")), patches(patch(1, 2, "xy"), patch(3, 0, "")), patches(patch(1, 2, "xyz"), patch(3, 0, "")), patches(patch(1, 2, ""), patch(3, 0, "xyz")), patches(patch(3, 0, "z"), patch(1, 2, "xy")),
		patches(patch(-1, -2, "x")), patches(patch(-1, 2, "x")), patches(patch(1, -2, "x")), manyPatches(20, "x"), manyPatches(21, "x"), manyPatches(22, "x"), append(manyPatches(21, "x"), patch(0, 0, "y")), patches(patch(0, 0, strings.Repeat("x", 241))), patches(patch(0, 0, strings.Repeat("x", 242))), patches(patch(0, 0, strings.Repeat("x", 240)+"y")),
		patches(patch(1<<32, 0, "")), patches(patch(0, 1<<32, "")), patches(patch(5, 1, ""), patch(0, 1, "")), patches(patch(0, 0, "\x00")), patches(patch(0, 0, "\x00\x00")),
	}
	for i, a := range lists {
		for j, b := range lists {
			wantSamePatches(t, a, roomyPatches(b), i == j)
		}
	}
}

// SamePatches tells what a turn of each kind does to each patch of a list.
func TestPatchesThatAreTurned(t *testing.T) {
	for n := 1; n <= 20; n++ {
		list := somePatches(n, 300, uint32(n)*7)
		for i := range list {
			for kind := range 4 {
				turned := roomyPatches(list)
				switch kind {
				case 0:
					turned[i].At++
				case 1:
					turned[i].Cut--
				case 2:
					turned[i].Put = append(turned[i].Put, 0)
				case 3:
					turned = slices.Delete(turned, i, i+1)
				}
				wantSamePatches(t, list, turned, false)
			}
		}
		wantSamePatches(t, list, roomyPatches(list), true)
		wantSamePatches(t, list, append(roomyPatches(list), impl.Patch{}), false)
	}
}
