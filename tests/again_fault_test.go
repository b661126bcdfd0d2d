package tests

import (
	"bytes"
	"fmt"
	"math"
	"strings"
	"testing"

	"loop.example/g00606/impl"
)

// oddPlaces are numbers within a text of so many bytes, at its ends and out of it, and such that two of them, or one and the size, add up to too much.
func oddPlaces(size int) []int64 {
	whole := int64(size)
	return append(oddNumbers(), whole/2, whole-1, whole, whole+1, -whole, -whole-1, math.MaxInt64-whole, math.MaxInt64-whole+1, math.MinInt64+whole, math.MaxInt64/2+1, math.MinInt64/2)
}

// At and n below 0, above how many bytes there are, by themselves and together, and so great that their sum would overflow.
func TestPlacesOfASplice(t *testing.T) {
	for _, text := range []string{"", "x", "ab<b>c", strings.Repeat("x", 240)} {
		for _, at := range oddPlaces(len(text)) {
			for _, n := range oddPlaces(len(text)) {
				e := edit{at, n, "y"}
				wantTold(t, fmt.Sprintf("SpliceBytes of %.20q, at %d, %d cut", text, at, n), impl.SpliceBytes([]byte(text), at, n, []byte(e.put)), splicedOf(text, e))
			}
		}
	}
	for e, code := range map[edit]int64{
		{-1, 0, ""}: impl.ErrRange, {-1, 1, ""}: impl.ErrRange, {0, -1, ""}: impl.ErrRange, {3, -1, ""}: impl.ErrRange, {-1, -1, ""}: impl.ErrRange, {4, -1, ""}: impl.ErrRange,
		{0, 0, ""}: impl.OK, {3, 0, ""}: impl.OK, {0, 3, ""}: impl.OK, {1, 2, ""}: impl.OK,
		{4, 0, ""}: impl.ErrRange, {0, 4, ""}: impl.ErrRange, {3, 1, ""}: impl.ErrRange, {1, 3, ""}: impl.ErrRange, {2, 2, ""}: impl.ErrRange,
		{math.MaxInt64, math.MaxInt64, ""}: impl.ErrRange, {1, math.MaxInt64, ""}: impl.ErrRange, {math.MaxInt64, 1, ""}: impl.ErrRange, {math.MaxInt64, 0, ""}: impl.ErrRange, {0, math.MaxInt64, ""}: impl.ErrRange, {3, math.MaxInt64 - 2, ""}: impl.ErrRange,
		{math.MinInt64, math.MinInt64, ""}: impl.ErrRange, {math.MinInt64, math.MaxInt64, ""}: impl.ErrRange, {math.MaxInt64, math.MinInt64, ""}: impl.ErrRange, {math.MinInt64, 0, ""}: impl.ErrRange, {0, math.MinInt64, ""}: impl.ErrRange,
	} {
		got := impl.SpliceBytes([]byte("abc"), e.at, e.n, nil)
		if got.Code != code || code != impl.OK && len(got.Bytes) != 0 {
			t.Errorf("SpliceBytes of abc, at %d, %d cut: got %d, %q, want the code %d", e.at, e.n, got.Code, got.Bytes, code)
		}
	}
}

// The same of memos: no place is out of bounds for one of these and not for the others.
func TestPlacesOfAnEdit(t *testing.T) {
	for _, m := range []impl.Memo{madeMemo("", 1), madeMemo("", 60), madeMemo("x", 1), madeMemo("ab<b>c", 2), madeMemo("a<b", 60)} {
		for _, at := range oddPlaces(len(m.Data)) {
			for _, n := range oddPlaces(len(m.Data)) {
				wantEdit(t, m, edit{at, n, "y"})
			}
		}
	}
	m := madeMemo("ab<b>c", 2)
	for _, e := range []edit{{-1, 0, ""}, {0, -1, ""}, {7, 0, ""}, {0, 7, ""}, {6, 1, ""}, {math.MaxInt64, math.MaxInt64, ""}, {1, math.MaxInt64, ""}, {math.MinInt64, math.MinInt64, ""}, {-2, 4, ""}, {8, -4, ""}} {
		wantEditCode(t, m, e, impl.ErrRange)
	}
}

// A new text of MaxText bytes, and of one more, whatever is put and cut.
func TestSizesOfASplice(t *testing.T) {
	for _, size := range []int{0, 1, 120, 239, 240} {
		text := strings.Repeat("x", size)
		for _, cut := range []int{0, 1, size / 2, size} {
			if cut > size {
				continue
			}
			for _, more := range []int{-1, 0, 1, 2, 17, 240} {
				put := strings.Repeat("y", max(240-size+cut+more, 0))
				for _, at := range []int64{0, int64(size-cut) / 2, int64(size - cut)} {
					e := edit{at, int64(cut), put}
					wantOneEdit(t, madeMemo(text, 60), e)
					if code := impl.SpliceBytes([]byte(text), at, e.n, []byte(put)).Code; (code == impl.ErrLarge) != (more > 0) {
						t.Errorf("SpliceBytes of %d bytes, at %d, %d cut, %d put: got code %d", size, at, cut, len(put), code)
					}
				}
			}
		}
	}
	full := madeMemo(strings.Repeat("x", 240), 7)
	for e, code := range map[edit]int64{{0, 0, ""}: impl.OK, {240, 0, ""}: impl.OK, {240, 0, "y"}: impl.ErrLarge, {0, 0, "y"}: impl.ErrLarge, {100, 1, "y"}: impl.OK, {100, 1, "yy"}: impl.ErrLarge, {239, 1, "y"}: impl.OK, {0, 240, strings.Repeat("y", 240)}: impl.OK, {0, 240, strings.Repeat("y", 241)}: impl.ErrLarge} {
		wantEdit(t, full, e)
		if got := impl.EditMemo(full, e.at, e.n, []byte(e.put)); got.Code != code {
			t.Errorf("%s: got code %d, want %d", briefEdit(full, e), got.Code, code)
		}
	}
}

// Data of SpliceBytes itself may have any number of bytes: the new text alone is bounded.
func TestSplicesOfLargeData(t *testing.T) {
	for _, size := range []int{241, 300, 481, 2000, 100000} {
		data := bytes.Repeat([]byte("abc<"), size/4+1)[:size]
		for _, left := range []int{0, 1, 239, 240, 241} {
			for _, at := range []int64{0, 1, int64(left) / 2, int64(left)} {
				if at > int64(left) {
					continue
				}
				for _, put := range []string{"", "y", strings.Repeat("y", 240), strings.Repeat("y", 241)} {
					e := edit{at, int64(size - left), put}
					wantTold(t, fmt.Sprintf("SpliceBytes of %d bytes, at %d, all but %d cut", size, at, left), impl.SpliceBytes(data, e.at, e.n, []byte(put)), splicedOf(string(data), e))
				}
			}
		}
		wantTold(t, "nothing cut", impl.SpliceBytes(data, 0, 0, nil), impl.BytesResult{Code: impl.ErrLarge})
		wantTold(t, "out of range", impl.SpliceBytes(data, int64(size), 1, nil), impl.BytesResult{Code: impl.ErrRange})
		wantTold(t, "at the end", impl.SpliceBytes(data, int64(size), 0, nil), impl.BytesResult{Code: impl.ErrLarge})
	}
	huge := make([]byte, 20000000)
	wantTold(t, "very many put", impl.SpliceBytes([]byte("x"), 0, 1, huge), impl.BytesResult{Code: impl.ErrLarge})
	wantTold(t, "very many cut", impl.SpliceBytes(huge, 1, int64(len(huge))-2, []byte("x")), impl.BytesResult{Bytes: []byte("\x00x\x00")})
	wantTold(t, "very many cut and put", impl.SpliceBytes(huge, 0, int64(len(huge)), huge), impl.BytesResult{Code: impl.ErrLarge})
}

// An edit that is out of range and too large at once is out of range.
func TestSplicesWithTwoFaults(t *testing.T) {
	large := strings.Repeat("y", 241)
	for _, m := range memosOfAllKinds() {
		size := int64(len(m.Data))
		for _, e := range []edit{{-1, 0, large}, {0, -1, large}, {size + 1, 0, large}, {0, size + 1, large}, {size, 1, large}, {math.MaxInt64, math.MaxInt64, large}, {math.MinInt64, math.MaxInt64, large}} {
			wantTold(t, "SpliceBytes "+briefEdit(m, e), impl.SpliceBytes(m.Data, e.at, e.n, []byte(large)), impl.BytesResult{Code: impl.ErrRange})
			wantEditCode(t, m, e, impl.ErrRange)
		}
		for _, e := range []edit{{0, 0, large}, {size, 0, large}, {0, size, large}} {
			wantTold(t, "SpliceBytes "+briefEdit(m, e), impl.SpliceBytes(m.Data, e.at, e.n, []byte(large)), impl.BytesResult{Code: impl.ErrLarge})
			wantEditCode(t, m, e, impl.ErrLarge)
		}
	}
}

// editsOfAllCodes are edits without a fault, out of range and too large, and both, of a text of so many bytes.
func editsOfAllCodes(size int) []edit {
	whole := int64(size)
	large := strings.Repeat("y", 241)
	return []edit{{0, 0, ""}, {whole, 0, "x"}, {0, whole, "<"}, {-1, 0, ""}, {0, whole + 1, ""}, {math.MaxInt64, math.MaxInt64, ""}, {0, 0, large}, {whole, 0, large}, {-1, -1, large}}
}

// The fault of the memo is asked ahead of the codes of the splice, whichever both are.
func TestMemosWithAFaultAreNotEdited(t *testing.T) {
	for _, m := range memosOfAllKinds() {
		for i, turned := range turnsOf(m) {
			code := memoFaultOf(turned.memo)
			if code == impl.OK {
				wantEdit(t, turned.memo, edit{0, int64(len(turned.memo.Data)), "x<"})
				continue
			}
			edits := editsOfAllCodes(len(turned.memo.Data))
			for j := range 3 {
				wantEditCode(t, turned.memo, edits[(i+j*3)%len(edits)], code)
			}
		}
	}
	for _, e := range editsOfAllCodes(0) {
		wantEditCode(t, impl.Memo{}, e, impl.ErrRange)
		wantEditCode(t, impl.Memo{Step: 1}, e, impl.ErrForm)
		wantEditCode(t, impl.Memo{Step: 61, Checks: []impl.Check{{}}}, e, impl.ErrRange)
		wantEditCode(t, impl.Memo{Data: make([]byte, 241), Step: 1}, e, impl.ErrLarge)
		wantEditCode(t, impl.Memo{Data: make([]byte, 241)}, e, impl.ErrLarge)
	}
	// Cut to what would be small enough it is still too large.
	wantEditCode(t, impl.Memo{Data: make([]byte, 241), Step: 1}, edit{0, 241, ""}, impl.ErrLarge)
}

// P1: nothing panics, and all ends, whatever a memo is.
func TestHugeMemosAreNotEdited(t *testing.T) {
	for what, m := range hugeMemos() {
		code := int64(impl.ErrForm)
		if what == "much Data" {
			code = impl.ErrLarge
		}
		for _, e := range editsOfAllCodes(10) {
			put := []byte(e.put)
			if got := impl.EditMemo(m, e.at, e.n, put); got.Code != code || got.Read != 0 || shownMemo(got.Memo) != shownMemo(impl.Memo{}) {
				t.Errorf("EditMemo of one with %s: got code %d", what, got.Code)
			}
			wantNumber(t, "ReadBound of one with "+what, impl.ReadBound(m, e.at, e.n, put), impl.IntResult{Code: code})
			wantNumber(t, "MeetOf of one with "+what, impl.MeetOf(m, e.at, e.n, put), impl.IntResult{Code: code})
		}
	}
}

// A memo that is right of another text or step has no fault, and is edited as what its Data and Step tell.
func TestMemosOfAnotherTextAreEdited(t *testing.T) {
	m := madeMemo("<!-- x -->ab", 60)
	m.Data = []byte("<!-- y -->ab")
	wantMemo(t, "another note", impl.EditMemo(m, 10, 0, []byte("c")), impl.MemoResult{Read: 13, Memo: madeMemo("<!-- y -->cab", 60)})
	m = madeMemo("ab<b>c", 7)
	m.Step = 50
	wantMemo(t, "another step", impl.EditMemo(m, 0, 0, []byte("c")), impl.MemoResult{Read: 1, Memo: madeMemo("cab<b>c", 50)})
}
