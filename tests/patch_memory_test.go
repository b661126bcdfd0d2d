package tests

import (
	"fmt"
	"math"
	"slices"
	"strings"
	"testing"

	"loop.example/g00606/impl"
)

// roomyPatches is a deep copy whose lists have more room than they need, so that a program that appends to them in place is found out.
func roomyPatches(list []impl.Patch) []impl.Patch {
	all := make([]impl.Patch, 0, len(list)+4)
	for _, p := range list {
		all = append(all, impl.Patch{At: p.At, Cut: p.Cut, Put: roomyBytes(p.Put)})
	}
	return all
}

// wholePatches shows patches with all the room of their lists.
func wholePatches(list []impl.Patch) string {
	var text strings.Builder
	for _, p := range list[:cap(list)] {
		fmt.Fprintf(&text, "[%d %d %q]", p.At, p.Cut, p.Put[:cap(p.Put)])
	}
	return text.String()
}

func scribblePatches(list []impl.Patch) {
	list = list[:cap(list)]
	for i, p := range list {
		scribbleBytes(p.Put)
		list[i] = impl.Patch{At: p.At + 7, Cut: p.Cut + 7, Put: []byte("scribble")}
	}
}

// spansOfPatches are where patches and their Puts lie.
func spansOfPatches(list []impl.Patch) []span {
	spans := []span{spanOf(list)}
	for _, p := range list {
		spans = append(spans, spanOf(p.Put))
	}
	return haveRoom(spans)
}

// patchCall is one set of arguments for all functions of patches.
type patchCall struct {
	a    []byte
	b    []byte
	list []impl.Patch
	size int64
}

// roomy has memory of its own for each list, and room behind it.
func (c patchCall) roomy() patchCall {
	return patchCall{a: roomyBytes(c.a), b: roomyBytes(c.b), list: roomyPatches(c.list), size: c.size}
}

func (c patchCall) whole() string {
	return fmt.Sprintf("%q %q %s", c.a[:cap(c.a)], c.b[:cap(c.b)], wholePatches(c.list))
}

func (c patchCall) scribble() {
	scribbleBytes(c.a)
	scribbleBytes(c.b)
	scribblePatches(c.list)
}

func (c patchCall) spans() []span {
	return append(spansOfPatches(c.list), haveRoom([]span{spanOf(c.a), spanOf(c.b)})...)
}

func (c patchCall) brief() string {
	return fmt.Sprintf("%.80q, %.80q, %s, by %d", c.a, c.b, briefPatches(c.list), c.size)
}

// patchAnswers are all that the calls answer.
type patchAnswers struct {
	fault  int64
	diff   impl.PatchesResult
	back   impl.PatchesResult
	done   impl.BytesResult
	puts   impl.IntResult
	like   bool
	unlike bool
}

func (c patchCall) answers() patchAnswers {
	return patchAnswers{
		impl.PatchesFault(c.list, c.size), impl.DiffText(c.a, c.b), impl.DiffText(c.b, c.a), impl.ApplyPatches(c.a, c.list), impl.PatchSize(c.list),
		impl.SamePatches(c.list, c.list), impl.SamePatches(c.list, c.list[:len(c.list)/2]),
	}
}

func (a patchAnswers) shown() string {
	return fmt.Sprintf("%d, %d %s, %d %s, %d %q, %+v, %t, %t", a.fault, a.diff.Code, shownPatches(a.diff.Patches), a.back.Code, shownPatches(a.back.Patches), a.done.Code, a.done.Bytes, a.puts, a.like, a.unlike)
}

func (a patchAnswers) scribble() {
	scribblePatches(a.diff.Patches)
	scribblePatches(a.back.Patches)
	scribbleBytes(a.done.Bytes)
}

// lists are where all lists of the answers lie.
func (a patchAnswers) lists() []span {
	return slices.Concat(spansOfPatches(a.diff.Patches), spansOfPatches(a.back.Patches), haveRoom([]span{spanOf(a.done.Bytes)}))
}

// patchLists are lists of patches for a text of so many bytes, with faults of every kind and without one.
func patchLists(size int64) [][]impl.Patch {
	lists := [][]impl.Patch{
		nil, patches(patch(0, 0, "")), patches(patch(0, size, "")), patches(patch(0, size, "xyz")), patches(patch(size, 0, "end")), patches(patch(0, 0, "a"), patch(0, 0, "b")), patches(patch(size/2, size-size/2, strings.Repeat("y", 240))),
		manyPatches(20, "ab"), manyPatches(21, "ab"), manyPatches(20, strings.Repeat("z", 240)), patches(patch(0, 0, strings.Repeat("z", 241))), patches(patch(1, 0, ""), patch(0, 0, "x")),
		patches(patch(-1, 0, "x")), patches(patch(0, -1, "x")), patches(patch(size, 1, "x")), patches(patch(math.MaxInt64, math.MaxInt64, "x")), patches(patch(math.MinInt64, math.MinInt64, "x")), patches(patch(0, 0, "x"), patch(math.MaxInt64, 1, "y")),
	}
	for seed := range uint32(6) {
		lists = append(lists, somePatches(int(seed*4), size, seed*37))
	}
	return lists
}

// patchCalls are sets of arguments of every kind, with faults and without them.
func patchCalls() []patchCall {
	texts := []string{"", "a", "aaaa", "abcabc", "<p>a</p><p>b</p>", strings.Repeat("x", 240), strings.Repeat("x", 241), string(filled(2000)), string(filled(2001))}
	for seed := range uint32(6) {
		texts = append(texts, mixedText(int(seed*3), seed*13))
	}
	sizes := []int64{0, 6, 2000, 2001, -1, math.MaxInt64, math.MinInt64}
	var calls []patchCall
	for i, a := range texts {
		for j, list := range patchLists(int64(len(a))) {
			b := texts[(i+j)%len(texts)]
			calls = append(calls, patchCall{[]byte(a), []byte(b), list, int64(len(a))}, patchCall{[]byte(a), []byte(a + "z"), list, sizes[j%len(sizes)]})
		}
	}
	return calls
}

// P1: no call changes an argument, the Puts of the patches among them, nor the room behind them.
func TestPatchesChangeNoArgument(t *testing.T) {
	for _, c := range patchCalls() {
		given := c.roomy()
		before := given.whole()
		given.answers()
		if given.whole() != before {
			t.Errorf("%s: an argument was changed", c.brief())
		}
	}
}

// P1: what is written to an argument is not seen in an answer, and what is written to an answer in nothing else.
func TestPatchesShareNoMemory(t *testing.T) {
	for _, c := range patchCalls() {
		given := c.roomy()
		before := given.whole()
		want := given.answers()
		shown := want.shown()
		given.answers().scribble()
		if given.whole() != before {
			t.Errorf("%s: what is written to an answer is seen in an argument", c.brief())
		}
		if want.shown() != shown || given.answers().shown() != shown {
			t.Errorf("%s: what is written to an answer is seen in another one", c.brief())
		}
		given.scribble()
		if want.shown() != shown {
			t.Errorf("%s: what is written to an argument is seen in an answer", c.brief())
		}
		want.scribble()
		if c.roomy().answers().shown() != shown {
			t.Errorf("%s: what is written is seen in what is answered then", c.brief())
		}
	}
}

// P1: no two lists of the answers lie in the same memory, the Puts of the patches among them, nor one in an argument.
func TestListsOfPatchesLieApart(t *testing.T) {
	for _, c := range patchCalls() {
		given := c.roomy()
		answers := given.answers()
		if !lieApart(answers.lists()) {
			t.Errorf("%s: two lists of the answers share memory", c.brief())
		}
		for _, a := range answers.lists() {
			if slices.ContainsFunc(given.spans(), func(b span) bool { return overlap(a, b) }) {
				t.Errorf("%s: an answer shares memory with an argument", c.brief())
			}
		}
	}
}

// P1: where nothing is cut and nothing put, and where one patch alone puts all there is, the answer is new memory yet.
func TestWhatStaysIsNewMemory(t *testing.T) {
	for _, list := range [][]impl.Patch{nil, patches(patch(0, 0, "")), patches(patch(3, 0, "")), patches(patch(0, 3, "xyz")), patches(patch(0, 1, ""))} {
		data, given := []byte("abc"), roomyPatches(list)
		got := impl.ApplyPatches(data, given)
		want := string(got.Bytes)
		scribbleBytes(data)
		scribblePatches(given)
		if got.Code != impl.OK || want == "" || string(got.Bytes) != want {
			t.Errorf("ApplyPatches of abc by %s: got %d, %q, then %q", briefPatches(list), got.Code, want, got.Bytes)
		}
	}
	b := []byte("xyz")
	got := impl.DiffText(nil, b)
	scribbleBytes(b)
	wantPatches(t, "DiffText of nothing and xyz", got, impl.PatchesResult{Patches: patches(patch(0, 0, "xyz"))})
}

// P1: arguments that lie in the same memory are asked like others: texts that overlap, and Puts that are pieces of the text, or one of the other one.
func TestArgumentsOfPatchesThatShareMemory(t *testing.T) {
	for _, text := range []string{"abcabc", "aaaaaa", "<p>a<p>b", "ab"} {
		for from := range len(text) {
			for to := from; to <= len(text); to++ {
				data := []byte(text)
				list := []impl.Patch{{At: 0, Cut: 1, Put: data[from:to]}, {At: 1, Put: data[from:]}, {At: 2, Put: data[:to]}}
				shared := patchCall{data, data[from:to], list, int64(len(data))}
				apart := shared.roomy()
				before := shared.whole()
				if shared.answers().shown() != apart.answers().shown() || shared.whole() != before {
					t.Errorf("%s: another answer, where arguments share memory", shared.brief())
				}
			}
		}
	}
}

// P1: what is put behind a list of an answer, into its room, is seen in no other one.
func TestPatchesGrowApart(t *testing.T) {
	data := []byte("abcdef")
	diff := impl.DiffText([]byte("abcdef"), []byte("axyzef")).Patches
	done := impl.ApplyPatches(data, diff)
	want := shownPatches(diff)
	_ = append(diff[0].Put, "more than there was"...)
	_ = append(done.Bytes, "more than there was"...)
	_ = append(diff, patch(7, 7, "w"))
	if shownPatches(diff) != want || string(done.Bytes) != "axyzef" || string(data) != "abcdef" {
		t.Errorf("got %s, %q of %q", shownPatches(diff), done.Bytes, data)
	}
}

// P1: nil and an empty list are the same value, as a text, as patches and as a Put.
func TestNothingInPatchesIsNothing(t *testing.T) {
	for i, nothing := range nothings[byte]() {
		none := nothings[impl.Patch]()[i]
		wantPatches(t, "DiffText of nothing", impl.DiffText(nothing, []byte("x")), impl.PatchesResult{Patches: patches(patch(0, 0, "x"))})
		wantPatches(t, "DiffText to nothing", impl.DiffText([]byte("x"), nothing), impl.PatchesResult{Patches: patches(patch(0, 1, ""))})
		wantTold(t, "ApplyPatches of nothing", impl.ApplyPatches(nothing, none), impl.BytesResult{})
		wantTold(t, "ApplyPatches of x by none", impl.ApplyPatches([]byte("x"), none), impl.BytesResult{Bytes: []byte("x")})
		wantTold(t, "ApplyPatches of a Put of nothing", impl.ApplyPatches([]byte("xyz"), []impl.Patch{{At: 1, Cut: 1, Put: nothing}}), impl.BytesResult{Bytes: []byte("xz")})
		wantPatchesFault(t, none, 0, impl.OK)
		wantNumber(t, "PatchSize of none", impl.PatchSize(none), impl.IntResult{})
		wantNumber(t, "PatchSize of a Put of nothing", impl.PatchSize([]impl.Patch{{Put: nothing}}), impl.IntResult{})
		for j := range nothings[byte]() {
			wantSamePatches(t, none, nothings[impl.Patch]()[j], true)
			wantSamePatches(t, []impl.Patch{{Put: nothing}}, []impl.Patch{{Put: nothings[byte]()[j]}}, true)
		}
		wantSamePatches(t, none, []impl.Patch{{Put: nothing}}, false)
	}
}

// P1: what is answered hangs on the arguments alone, not on what was called ahead of it.
func TestPatchesKeepNothing(t *testing.T) {
	calls := patchCalls()
	var first []string
	for _, c := range calls {
		first = append(first, c.answers().shown())
	}
	for round := range 3 {
		for i := range calls {
			at := (i*7 + round*31) % len(calls)
			if calls[at].answers().shown() != first[at] {
				t.Errorf("%s: another answer than at first", calls[at].brief())
			}
		}
	}
}
