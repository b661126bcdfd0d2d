package tests

import (
	"fmt"
	"math"
	"slices"
	"strings"
	"testing"

	"loop.example/g00606/impl"
)

// manyPatches are n that put this, each at 0, so that all of them meet and fit to any text.
func manyPatches(n int, put string) []impl.Patch {
	var list []impl.Patch
	for range n {
		list = append(list, patch(0, 0, put))
	}
	return list
}

// wantFaultHeld holds the PatchesFault against a code that is told, and the model against it.
func wantFaultHeld(t *testing.T, list []impl.Patch, size int64, code int64) {
	t.Helper()
	wantPatchesFault(t, list, size, code)
	if told := patchesFaultOf(list, size); told != code {
		t.Errorf("the document asks %d of %s by %d, want %d", told, briefPatches(list), size, code)
	}
}

// The size itself is 0 to 2000, whatever the patches are.
func TestSizesOfPatchedTexts(t *testing.T) {
	for size, code := range map[int64]int64{0: impl.OK, 1: impl.OK, 1999: impl.OK, 2000: impl.OK, 2001: impl.ErrRange, -1: impl.ErrRange, math.MinInt64: impl.ErrRange, math.MaxInt64: impl.ErrRange, math.MinInt64 + 1: impl.ErrRange, 1 << 32: impl.ErrRange} {
		wantFaultHeld(t, nil, size, code)
		wantFaultHeld(t, patches(patch(0, 0, "x")), size, code)
		wantFaultHeld(t, manyPatches(20, ""), size, code)
	}
	for _, size := range oddPlaces(2000) {
		for _, list := range [][]impl.Patch{nil, patches(patch(0, 0, "")), patches(patch(1, 1, "x")), patches(patch(size, 0, "")), patches(patch(0, size, "")), manyPatches(21, "")} {
			wantPatchesFault(t, list, size, patchesFaultOf(list, size))
		}
	}
}

// 20 patches are not too many, 21 are, whatever they are.
func TestNumbersOfPatches(t *testing.T) {
	for n, code := range map[int]int64{0: impl.OK, 1: impl.OK, 19: impl.OK, 20: impl.OK, 21: impl.ErrMany, 22: impl.ErrMany, 1000: impl.ErrMany} {
		list := manyPatches(n, "ab")
		wantFaultHeld(t, list, 5, code)
		wantTold(t, fmt.Sprintf("ApplyPatches of %d", n), impl.ApplyPatches([]byte("xyz"), list), appliedOf("xyz", list))
		wantNumber(t, fmt.Sprintf("PatchSize of %d", n), impl.PatchSize(list), patchSizeOf(list))
		if got := impl.PatchSize(list); got.Code != code || code == impl.OK && got.Value != int64(2*n) {
			t.Errorf("PatchSize of %d: got %+v", n, got)
		}
		if got := impl.ApplyPatches([]byte("xyz"), list); got.Code != code || code == impl.OK && string(got.Bytes) != strings.Repeat("ab", n)+"xyz" {
			t.Errorf("ApplyPatches of %d: got %d, %q", n, got.Code, got.Bytes)
		}
	}
}

// A Put has MaxOut bytes at most, in each place of the list.
func TestSizesOfPuts(t *testing.T) {
	for size, code := range map[int]int64{0: impl.OK, 1: impl.OK, 239: impl.OK, 240: impl.OK, 241: impl.ErrMany, 2000: impl.ErrMany, 100000: impl.ErrMany} {
		put := strings.Repeat("x", size)
		for n := 1; n <= 20; n++ {
			for place := range n {
				list := manyPatches(n, "")
				list[place].Put = []byte(put)
				wantFaultHeld(t, list, 0, code)
				wantPatched(t, "", list)
				want := impl.IntResult{Code: code}
				if code == impl.OK {
					want.Value = int64(size)
				}
				wantNumber(t, fmt.Sprintf("PatchSize of %d, %d bytes in the one at %d", n, size, place), impl.PatchSize(list), want)
			}
		}
	}
	wantNumber(t, "PatchSize of the most", impl.PatchSize(manyPatches(20, strings.Repeat("x", 240))), impl.IntResult{Value: 4800})
}

// At and Cut below 0, an end at size and behind it, and numbers whose sum would overflow.
func TestPlacesOfAPatch(t *testing.T) {
	for _, size := range []int64{0, 1, 5, 1999, 2000} {
		for _, at := range oddPlaces(int(size)) {
			for _, cut := range append(oddPlaces(int(size)), size-at, size-at+1, size-at-1, -at) {
				for _, list := range [][]impl.Patch{patches(patch(at, cut, "x")), patches(patch(0, 0, ""), patch(at, cut, "")), patches(patch(at, cut, ""), patch(size, 0, "y"))} {
					wantPatchesFault(t, list, size, patchesFaultOf(list, size))
				}
			}
		}
	}
	for p, code := range map[[2]int64]int64{
		{0, 0}: impl.OK, {3, 0}: impl.OK, {0, 3}: impl.OK, {1, 2}: impl.OK, {2, 1}: impl.OK,
		{4, 0}: impl.ErrRange, {0, 4}: impl.ErrRange, {3, 1}: impl.ErrRange, {1, 3}: impl.ErrRange, {4, -1}: impl.ErrRange, {5, -5}: impl.ErrRange,
		{-1, 0}: impl.ErrRange, {-1, 1}: impl.ErrRange, {-1, 4}: impl.ErrRange, {0, -1}: impl.ErrRange, {3, -1}: impl.ErrRange, {-1, -1}: impl.ErrRange,
		{math.MaxInt64, 0}: impl.ErrRange, {0, math.MaxInt64}: impl.ErrRange, {math.MaxInt64, 1}: impl.ErrRange, {1, math.MaxInt64}: impl.ErrRange, {3, math.MaxInt64}: impl.ErrRange, {math.MaxInt64, math.MaxInt64}: impl.ErrRange, {math.MaxInt64/2 + 1, math.MaxInt64/2 + 1}: impl.ErrRange,
		{math.MinInt64, 0}: impl.ErrRange, {0, math.MinInt64}: impl.ErrRange, {math.MinInt64, math.MinInt64}: impl.ErrRange, {math.MinInt64, math.MaxInt64}: impl.ErrRange, {math.MaxInt64, math.MinInt64}: impl.ErrRange, {math.MinInt64, -1}: impl.ErrRange, {-1, math.MinInt64}: impl.ErrRange,
	} {
		list := patches(patch(p[0], p[1], "x"))
		wantFaultHeld(t, list, 3, code)
		wantPatched(t, "abc", list)
		// PatchSize asks nothing of the places.
		wantNumber(t, "PatchSize of "+briefPatches(list), impl.PatchSize(list), impl.IntResult{Value: 1})
	}
}

// Each patch begins at the end of the one ahead, or behind it: that it begins behind where that one begins is not enough.
func TestOrderOfPatches(t *testing.T) {
	for at, code := range map[int64]int64{0: impl.ErrForm, 1: impl.ErrForm, 2: impl.ErrForm, 3: impl.ErrForm, 4: impl.OK, 5: impl.OK, 8: impl.OK} {
		for _, put := range []string{"", "xyzxyz"} {
			wantFaultHeld(t, patches(patch(2, 2, put), patch(at, 0, "")), 8, code)
			wantFaultHeld(t, patches(patch(0, 0, ""), patch(2, 2, put), patch(at, 0, put)), 8, code)
			wantFaultHeld(t, patches(patch(2, 2, put), patch(at, 0, put), patch(8, 0, "")), 8, code)
			wantPatched(t, "abcdefgh", patches(patch(2, 2, put), patch(at, 0, "y")))
		}
	}
	wantFaultHeld(t, patches(patch(3, 0, "x"), patch(3, 0, "y"), patch(3, 1, "z")), 4, impl.OK)
	wantFaultHeld(t, patches(patch(3, 1, "x"), patch(3, 0, "y")), 4, impl.ErrForm)
	wantFaultHeld(t, patches(patch(1, 0, ""), patch(0, 0, "")), 3, impl.ErrForm)
	wantFaultHeld(t, patches(patch(1, 0, ""), patch(0, 3, "")), 3, impl.ErrForm)
	// The end of the one right ahead counts, not that of the first one, nor of the longest.
	wantFaultHeld(t, patches(patch(0, 1, ""), patch(1, 3, ""), patch(3, 0, "")), 6, impl.ErrForm)
	wantFaultHeld(t, patches(patch(0, 3, ""), patch(3, 1, ""), patch(4, 2, "")), 6, impl.OK)
}

// faultyPatches are one of each fault for a text of 8 bytes, that stands behind one that ends at 4.
func faultyPatches() map[int64][]impl.Patch {
	large := strings.Repeat("x", 241)
	return map[int64][]impl.Patch{
		impl.ErrMany:  {patch(4, 0, large), patch(8, 0, large), patch(-1, 0, large), patch(9, 0, large), patch(0, -1, large), patch(3, 0, large), patch(0, 9, large), patch(math.MaxInt64, math.MaxInt64, large)},
		impl.ErrRange: {patch(-1, 0, ""), patch(4, -1, ""), patch(9, 0, ""), patch(8, 1, ""), patch(3, 6, ""), patch(0, 9, ""), patch(3, -1, "x"), patch(math.MaxInt64, math.MaxInt64, ""), patch(math.MinInt64, 0, "")},
		impl.ErrForm:  {patch(3, 0, ""), patch(0, 0, "x"), patch(0, 8, ""), patch(3, 1, "x"), patch(3, 5, "")},
	}
}

// One that has two faults at once tells what stands first in the chapter, and of two with one each the first one tells.
func TestPatchesWithTwoFaults(t *testing.T) {
	ahead := patch(2, 2, "y")
	for code, list := range faultyPatches() {
		for _, p := range list {
			wantFaultHeld(t, patches(ahead, p), 8, code)
			wantFaultHeld(t, patches(patch(0, 1, ""), ahead, p, patch(8, 0, "")), 8, code)
			wantTold(t, "ApplyPatches of "+briefPatches(patches(ahead, p)), impl.ApplyPatches([]byte("abcdefgh"), patches(ahead, p)), impl.BytesResult{Code: code})
			for _, others := range faultyPatches() {
				for _, other := range others {
					both := patches(ahead, p, other)
					wantFaultHeld(t, both, 8, code)
					wantTold(t, "ApplyPatches of "+briefPatches(both), impl.ApplyPatches([]byte("abcdefgh"), both), impl.BytesResult{Code: code})
				}
			}
		}
	}
}

// The size is asked ahead of how many patches there are, and both ahead of the patches.
func TestSizeIsAskedAheadOfPatches(t *testing.T) {
	for _, size := range []int64{-1, 2001, math.MinInt64, math.MaxInt64} {
		wantFaultHeld(t, manyPatches(21, ""), size, impl.ErrRange)
		wantFaultHeld(t, manyPatches(21, strings.Repeat("x", 241)), size, impl.ErrRange)
		wantFaultHeld(t, patches(patch(0, 0, strings.Repeat("x", 241))), size, impl.ErrRange)
		wantFaultHeld(t, patches(patch(2, 2, ""), patch(0, 0, "")), size, impl.ErrRange)
	}
	for _, list := range faultyPatches() {
		for _, p := range list {
			wantFaultHeld(t, append(patches(p), manyPatches(20, "")...), 8, impl.ErrMany)
			wantFaultHeld(t, append(manyPatches(20, ""), p), 8, impl.ErrMany)
		}
	}
	wantTold(t, "much data, many patches", impl.ApplyPatches(make([]byte, 2001), manyPatches(21, "")), impl.BytesResult{Code: impl.ErrRange})
	wantTold(t, "many patches", impl.ApplyPatches(make([]byte, 2000), manyPatches(21, "")), impl.BytesResult{Code: impl.ErrMany})
}

// DiffText has texts of MaxOut bytes, and of no more, be they the same or not.
func TestSizesOfDifferences(t *testing.T) {
	for _, sizeA := range []int{0, 1, 239, 240, 241, 2000, 100000} {
		for _, sizeB := range []int{0, 1, 239, 240, 241, 2000, 100000} {
			for _, letter := range []string{"a", "b"} {
				a, b := strings.Repeat("a", sizeA), strings.Repeat(letter, sizeB)
				wantDiff(t, a, b)
				got := impl.DiffText([]byte(a), []byte(b))
				if (got.Code == impl.ErrLarge) != (sizeA > 240 || sizeB > 240) || got.Code != impl.OK && len(got.Patches) > 0 {
					t.Errorf("DiffText of %d and %d bytes: got %d, %s", sizeA, sizeB, got.Code, briefPatches(got.Patches))
				}
			}
		}
	}
	wantDiff(t, strings.Repeat("a", 240), strings.Repeat("a", 239)+"b")
	wantDiff(t, strings.Repeat("a", 240), strings.Repeat("b", 240))
	// That two texts are the same is not asked ahead of their sizes.
	wantPatches(t, "like large ones", impl.DiffText(make([]byte, 241), make([]byte, 241)), impl.PatchesResult{Code: impl.ErrLarge})
}

// ApplyPatches has data of 2000 bytes, and of no more, with patches and without.
func TestSizesOfPatchedData(t *testing.T) {
	for _, size := range []int{0, 1, 240, 241, 1999, 2000, 2001, 5000, 1000000} {
		data := string(filled(size))
		for _, list := range [][]impl.Patch{nil, patches(patch(0, 0, "")), patches(patch(0, int64(size), "")), patches(patch(0, int64(size), "x")), patches(patch(int64(size), 0, ""))} {
			if got := wantPatched(t, data, list); (got.Code == impl.ErrRange) != (size > 2000) {
				t.Errorf("ApplyPatches of %d bytes by %s: got code %d", size, briefPatches(list), got.Code)
			}
		}
	}
}

// What comes out has 2000 bytes, and no more.
func TestSizesOfWhatComesOut(t *testing.T) {
	put := strings.Repeat("y", 240)
	for size, code := range map[int]int64{1759: impl.OK, 1760: impl.OK, 1761: impl.ErrLarge, 2000: impl.ErrLarge} {
		data := string(filled(size))
		for _, at := range []int64{0, 7, int64(size)} {
			if got := wantPatched(t, data, patches(patch(at, 0, put))); got.Code != code {
				t.Errorf("ApplyPatches of %d bytes, 240 put at %d: got code %d", size, at, got.Code)
			}
		}
	}
	if got := wantPatched(t, "", manyPatches(20, put[:100])); len(got.Bytes) != 2000 {
		t.Errorf("ApplyPatches of nothing, 20 times 100 put: got code %d, %d bytes", got.Code, len(got.Bytes))
	}
	for _, list := range [][]impl.Patch{append(manyPatches(19, put[:100]), patch(0, 0, put[:101])), manyPatches(20, put)} {
		if got := wantPatched(t, "", list); got.Code != impl.ErrLarge {
			t.Errorf("ApplyPatches of nothing by %s: got code %d", briefPatches(list), got.Code)
		}
	}
}

// Only what there is at last counts: what is put too much is cut by a patch behind it.
func TestWhatIsPutTooMuchIsCut(t *testing.T) {
	data, put := string(filled(2000)), strings.Repeat("y", 240)
	for more, code := range map[int]int64{-1: impl.OK, 0: impl.OK, 1: impl.ErrLarge, 40: impl.ErrLarge, 240: impl.ErrLarge} {
		cut := int64(240 - more)
		for _, list := range [][]impl.Patch{
			patches(patch(0, 0, put), patch(2000-cut, cut, "")), patches(patch(0, cut, ""), patch(2000, 0, put)), patches(patch(5, 0, put), patch(5, cut, "")), patches(patch(5, cut, put)),
			patches(patch(0, 0, put[:120]), patch(1000, 0, put[120:]), patch(1001, cut, "")), append(manyPatches(19, "xyz"), patch(500, cut, put[:240-57])),
		} {
			if got := wantPatched(t, data, list); got.Code != code || code == impl.OK && len(got.Bytes) != 2000+more {
				t.Errorf("ApplyPatches of 2000 bytes by %s: got code %d, %d bytes", briefPatches(list), got.Code, len(got.Bytes))
			}
		}
	}
	for n, code := range map[int]int64{8: impl.OK, 9: impl.ErrLarge, 19: impl.ErrLarge} {
		if got := wantPatched(t, data, append(manyPatches(n, put), patch(0, 2000, ""))); got.Code != code {
			t.Errorf("ApplyPatches of 2000 bytes, %d times 240 put, and all cut: got code %d, %d bytes", n, got.Code, len(got.Bytes))
		}
	}
}

// A fault of the patches is asked ahead of how large the text would be.
func TestFaultsAreAskedAheadOfWhatComesOut(t *testing.T) {
	data := string(filled(2000))
	for _, list := range [][]impl.Patch{
		patches(patch(0, 0, "x"), patch(2001, 0, "")), patches(patch(0, 0, "x"), patch(2000, 1, "")), patches(patch(0, 0, "x"), patch(-1, 0, "")),
		patches(patch(5, 0, "x"), patch(4, 0, "")), patches(patch(0, 0, "x"), patch(0, 0, strings.Repeat("x", 241))), manyPatches(21, "x"),
	} {
		code := patchesFaultOf(list, 2000)
		if code == impl.OK {
			t.Errorf("%s has no fault", briefPatches(list))
		}
		wantTold(t, "ApplyPatches of "+briefPatches(list), impl.ApplyPatches([]byte(data), list), impl.BytesResult{Code: code})
	}
}

// PatchSize asks of each patch how many bytes it puts, and of no one where it stands.
func TestPatchSizeAsksOfPutsAlone(t *testing.T) {
	list := patches(patch(-1, -1, "a"), patch(math.MaxInt64, math.MaxInt64, "bc"), patch(5, 0, ""), patch(0, 9000, "d"), patch(math.MinInt64, math.MinInt64, strings.Repeat("e", 240)))
	wantNumber(t, "PatchSize", impl.PatchSize(list), impl.IntResult{Value: 244})
	wantNumber(t, "PatchSize of none", impl.PatchSize(nil), impl.IntResult{})
	wantNumber(t, "PatchSize of one that puts nothing", impl.PatchSize(patches(patch(1, 2, ""))), impl.IntResult{})
	for _, place := range []int{0, 2, 4} {
		turned := slices.Clone(list)
		turned[place].Put = make([]byte, 241)
		wantNumber(t, "PatchSize of a large Put", impl.PatchSize(turned), impl.IntResult{Code: impl.ErrMany})
	}
	for _, code := range []int64{impl.ErrRange, impl.ErrForm} {
		for _, p := range faultyPatches()[code] {
			wantNumber(t, "PatchSize of "+briefPatches(patches(p)), impl.PatchSize(patches(patch(2, 2, "xy"), p)), impl.IntResult{Value: 2 + int64(len(p.Put))})
		}
	}
}

// P1: nothing panics, and all ends, whatever patches are, and however many there are.
func TestHugePatches(t *testing.T) {
	huge := make([]byte, 20000000)
	wantFaultHeld(t, patches(impl.Patch{Put: huge}), 0, impl.ErrMany)
	wantTold(t, "huge data", impl.ApplyPatches(huge, nil), impl.BytesResult{Code: impl.ErrRange})
	wantTold(t, "a huge Put", impl.ApplyPatches(nil, patches(impl.Patch{Put: huge})), impl.BytesResult{Code: impl.ErrMany})
	wantNumber(t, "a huge Put", impl.PatchSize(patches(impl.Patch{Put: huge})), impl.IntResult{Code: impl.ErrMany})
	wantPatches(t, "huge texts", impl.DiffText(huge, huge), impl.PatchesResult{Code: impl.ErrLarge})
	wantPatches(t, "a huge text", impl.DiffText(huge, nil), impl.PatchesResult{Code: impl.ErrLarge})
	wantPatches(t, "a huge text", impl.DiffText(nil, huge), impl.PatchesResult{Code: impl.ErrLarge})
	many := make([]impl.Patch, 1000000)
	wantFaultHeld(t, many, 2000, impl.ErrMany)
	wantTold(t, "very many patches", impl.ApplyPatches([]byte("x"), many), impl.BytesResult{Code: impl.ErrMany})
	wantNumber(t, "very many patches", impl.PatchSize(many), impl.IntResult{Code: impl.ErrMany})
	wantSamePatches(t, many, many, true)
	wantSamePatches(t, many, many[1:], false)
	wantSamePatches(t, patches(impl.Patch{Put: huge}), patches(impl.Patch{Put: huge}), true)
}
