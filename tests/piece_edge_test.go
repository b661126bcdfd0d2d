package tests

import (
	"fmt"
	"math"
	"testing"

	"loop.example/g00606/impl"
)

type badTable struct {
	table impl.Table
	code  int64
}

func onePiece(base int, p impl.Piece) impl.Table {
	return impl.Table{Base: filled(base), More: filled(3), Pieces: []impl.Piece{p}}
}

func repeated(p impl.Piece, n int) []impl.Piece {
	var list []impl.Piece
	for i := 0; i < n; i++ {
		list = append(list, p)
	}
	return list
}

// badTables has each fault by itself, and several at once, with the code that is named first.
func badTables() map[string]badTable {
	const top, bottom = math.MaxInt64, math.MinInt64
	large := repeated(impl.Piece{Size: 121}, 2)
	return map[string]badTable{
		"Base too long":            {impl.Table{Base: filled(maxStore + 1)}, impl.ErrMany},
		"More too long":            {impl.Table{More: filled(maxStore + 1)}, impl.ErrMany},
		"too many pieces":          {singles(impl.MaxPieces + 1), impl.ErrMany},
		"From -1":                  {onePiece(4, impl.Piece{From: -1, Size: 2}), impl.ErrRange},
		"Size 0":                   {onePiece(4, impl.Piece{From: 1}), impl.ErrRange},
		"Size -1":                  {onePiece(4, impl.Piece{From: 2, Size: -1}), impl.ErrRange},
		"ends behind Base":         {onePiece(4, impl.Piece{From: 3, Size: 2}), impl.ErrRange},
		"begins at the end":        {onePiece(4, impl.Piece{From: 4, Size: 1}), impl.ErrRange},
		"empty at the end":         {onePiece(4, impl.Piece{From: 4}), impl.ErrRange},
		"begins behind the end":    {onePiece(4, impl.Piece{From: 6, Size: 1}), impl.ErrRange},
		"ends behind More":         {onePiece(4, impl.Piece{Added: true, From: 0, Size: 4}), impl.ErrRange},
		"of nothing":               {impl.Table{Pieces: []impl.Piece{{Size: 1}}}, impl.ErrRange},
		"From greatest":            {onePiece(4, impl.Piece{From: top, Size: 1}), impl.ErrRange},
		"Size greatest":            {onePiece(4, impl.Piece{From: 1, Size: top}), impl.ErrRange},
		"both greatest":            {onePiece(4, impl.Piece{From: top, Size: top}), impl.ErrRange},
		"From least":               {onePiece(4, impl.Piece{From: bottom, Size: 1}), impl.ErrRange},
		"Size least":               {onePiece(4, impl.Piece{From: 0, Size: bottom}), impl.ErrRange},
		"both least":               {onePiece(4, impl.Piece{From: bottom, Size: bottom}), impl.ErrRange},
		"least and greatest":       {onePiece(4, impl.Piece{From: bottom, Size: top}), impl.ErrRange},
		"greatest and least":       {onePiece(4, impl.Piece{From: top, Size: bottom}), impl.ErrRange},
		"sums that wrap to 2":      {impl.Table{Base: filled(4), Pieces: []impl.Piece{{Size: top}, {Size: top}, {Size: 4}}}, impl.ErrRange},
		"the last piece alone":     {impl.Table{Base: filled(4), Pieces: []impl.Piece{{Size: 4}, {Size: 4}, {From: 2, Size: 3}}}, impl.ErrRange},
		"text too large":           {impl.Table{Base: filled(121), Pieces: large}, impl.ErrLarge},
		"one piece too large":      {impl.Table{Base: filled(maxStore), Pieces: []impl.Piece{{Size: impl.MaxText + 1}}}, impl.ErrLarge},
		"all pieces of all":        {impl.Table{Base: filled(maxStore), Pieces: repeated(impl.Piece{Size: maxStore}, impl.MaxPieces)}, impl.ErrLarge},
		"many and range":           {impl.Table{Base: filled(4), Pieces: repeated(impl.Piece{From: -1}, impl.MaxPieces+1)}, impl.ErrMany},
		"Base many and range":      {impl.Table{Base: filled(maxStore + 1), Pieces: []impl.Piece{{From: -1, Size: 1}}}, impl.ErrMany},
		"More many and large":      {impl.Table{Base: filled(121), More: filled(maxStore + 1), Pieces: large}, impl.ErrMany},
		"many and large":           {impl.Table{Base: filled(9), Pieces: repeated(impl.Piece{Size: 9}, impl.MaxPieces+1)}, impl.ErrMany},
		"large, then range":        {impl.Table{Base: filled(121), Pieces: append(repeated(impl.Piece{Size: 121}, 2), impl.Piece{From: 121, Size: 1})}, impl.ErrRange},
		"many and range and large": {impl.Table{Base: filled(maxStore + 1), More: filled(1), Pieces: append(repeated(impl.Piece{Size: 241}, 40), impl.Piece{})}, impl.ErrMany},
	}
}

func TestEachFunctionAsksTheFaultFirst(t *testing.T) {
	for name, bad := range badTables() {
		if got := impl.TableFault(bad.table); got != bad.code {
			t.Errorf("%s: TableFault is %d, want %d", name, got, bad.code)
		}
		if got := impl.TextOf(bad.table); got.Code != bad.code || len(got.Bytes) != 0 {
			t.Errorf("%s: TextOf is %+v, want the code %d", name, got, bad.code)
		}
		if got := impl.SizeOf(bad.table); got.Code != bad.code || got.Value != 0 {
			t.Errorf("%s: SizeOf is %+v, want the code %d", name, got, bad.code)
		}
		for _, at := range []int64{-1, 0, 1, math.MaxInt64} {
			wantCode(t, name+": insert", impl.InsertText(bad.table, at, filled(1)), bad.code)
			wantCode(t, name+": insert nothing", impl.InsertText(bad.table, at, nil), bad.code)
			wantCode(t, name+": insert too much", impl.InsertText(bad.table, at, filled(maxStore+1)), bad.code)
			wantCode(t, name+": delete", impl.DeleteText(bad.table, at, 1), bad.code)
			wantCode(t, name+": delete nothing", impl.DeleteText(bad.table, at, 0), bad.code)
		}
		wantCode(t, name+": compact", impl.CompactTable(bad.table), bad.code)
	}
}

func TestBoundsOfATable(t *testing.T) {
	full := impl.Table{Base: filled(maxStore), More: filled(maxStore)}
	good := map[string]impl.Table{
		"both stores full": full,
		"last byte of Base": {Base: full.Base, More: full.More,
			Pieces: []impl.Piece{{From: maxStore - 1, Size: 1}, {Added: true, From: maxStore - impl.MaxText + 1, Size: impl.MaxText - 1}}},
		"all pieces":         singles(impl.MaxPieces),
		"all text":           impl.NewTable(filled(impl.MaxText)).Table,
		"all text, in parts": {Base: filled(6), Pieces: repeated(impl.Piece{Size: 6}, impl.MaxPieces)},
	}
	for name, table := range good {
		if code := impl.TableFault(table); code != impl.OK {
			t.Errorf("%s: TableFault is %d, want 0", name, code)
		}
		if got := impl.TextOf(table); got.Code != impl.OK || string(got.Bytes) != string(textOf(table)) {
			t.Errorf("%s: TextOf is %+v", name, got)
		}
	}
}

func TestNewTableBounds(t *testing.T) {
	wantTable(t, "MaxText", impl.NewTable(filled(impl.MaxText)), impl.Table{Base: filled(impl.MaxText), Pieces: []impl.Piece{{Size: impl.MaxText}}})
	wantCode(t, "one more", impl.NewTable(filled(impl.MaxText+1)), impl.ErrLarge)
	wantCode(t, "many more", impl.NewTable(filled(5000)), impl.ErrLarge)
}

func TestInsertUpToMaxText(t *testing.T) {
	table := impl.NewTable(filled(impl.MaxText - 3)).Table
	for _, at := range []int{0, 100, impl.MaxText - 3} {
		wantTable(t, "full", impl.InsertText(table, int64(at), []byte("xyz")), inserted(table, at, []byte("xyz")))
		wantCode(t, "one more", impl.InsertText(table, int64(at), []byte("wxyz")), impl.ErrLarge)
	}
	full := impl.NewTable(filled(impl.MaxText)).Table
	wantCode(t, "into a full text", impl.InsertText(full, 0, []byte("x")), impl.ErrLarge)
	wantTable(t, "nothing into a full text", impl.InsertText(full, 120, nil), full)
	wantTable(t, "MaxText into nothing", impl.InsertText(impl.Table{}, 0, filled(impl.MaxText)), inserted(impl.Table{}, 0, filled(impl.MaxText)))
	wantCode(t, "one more into nothing", impl.InsertText(impl.Table{}, 0, filled(impl.MaxText+1)), impl.ErrLarge)
}

func TestInsertUpToAFullMore(t *testing.T) {
	table := impl.Table{Base: []byte("ab"), More: filled(maxStore - 2), Pieces: []impl.Piece{{Size: 2}}}
	wantTable(t, "full", impl.InsertText(table, 1, []byte("xy")), inserted(table, 1, []byte("xy")))
	wantCode(t, "one more", impl.InsertText(table, 1, []byte("xyz")), impl.ErrMany)
	table.More = filled(maxStore)
	wantCode(t, "into a full More", impl.InsertText(table, 2, []byte("x")), impl.ErrMany)
	wantTable(t, "nothing into a full More", impl.InsertText(table, 1, nil), table)
	wantTable(t, "a delete needs no More", impl.DeleteText(table, 0, 1), deleted(table, 0, 1))
}

func TestInsertUpToMaxPieces(t *testing.T) {
	last := singles(impl.MaxPieces - 1)
	for at := 0; at <= impl.MaxPieces-1; at++ {
		wantTable(t, "one left", impl.InsertText(last, int64(at), []byte("x")), inserted(last, at, []byte("x")))
	}
	full := singles(impl.MaxPieces)
	for at := int64(0); at <= impl.MaxPieces; at++ {
		wantCode(t, "none left", impl.InsertText(full, at, []byte("x")), impl.ErrMany)
		wantTable(t, "nothing, none left", impl.InsertText(full, at, nil), full)
	}
	cut := wide(impl.MaxPieces - 1)
	wantCode(t, "a cut makes two", impl.InsertText(cut, 1, []byte("x")), impl.ErrMany)
	wantTable(t, "no cut, one", impl.InsertText(cut, 3, []byte("x")), inserted(cut, 3, []byte("x")))
	cut = wide(impl.MaxPieces - 2)
	wantTable(t, "a cut, two left", impl.InsertText(cut, 2, []byte("x")), inserted(cut, 2, []byte("x")))
}

func TestDeleteUpToMaxPieces(t *testing.T) {
	full := wide(impl.MaxPieces)
	wantCode(t, "a cut makes one more", impl.DeleteText(full, 1, 1), impl.ErrMany)
	wantTable(t, "a beginning makes none", impl.DeleteText(full, 0, 2), deleted(full, 0, 2))
	wantTable(t, "an end makes none", impl.DeleteText(full, 1, 2), deleted(full, 1, 2))
	wantTable(t, "a whole one is gone", impl.DeleteText(full, 0, 3), deleted(full, 0, 3))
	wantTable(t, "two cuts with one gone between", impl.DeleteText(full, 1, 3), deleted(full, 1, 3))
	wantTable(t, "nothing", impl.DeleteText(full, 1, 0), full)
	last := wide(impl.MaxPieces - 1)
	wantTable(t, "a cut, one left", impl.DeleteText(last, 1, 1), deleted(last, 1, 1))
	ends := impl.Table{Base: filled(4), Pieces: repeated(impl.Piece{Size: 4}, impl.MaxPieces)}
	wantTable(t, "cuts in two pieces that meet", impl.DeleteText(ends, 2, 4), deleted(ends, 2, 4))
	wantTable(t, "all", impl.DeleteText(ends, 0, 4*impl.MaxPieces), impl.Table{Base: ends.Base})
}

func TestEmptyText(t *testing.T) {
	for _, table := range []impl.Table{{}, {Base: []byte("abc"), More: []byte("X")}} {
		if got := impl.SizeOf(table); got != (impl.IntResult{}) {
			t.Errorf("SizeOf an empty text is %+v", got)
		}
		if got := impl.TextOf(table); got.Code != impl.OK || len(got.Bytes) != 0 {
			t.Errorf("TextOf an empty text is %+v", got)
		}
		wantTable(t, "insert", impl.InsertText(table, 0, []byte("yz")), inserted(table, 0, []byte("yz")))
		wantTable(t, "insert nothing", impl.InsertText(table, 0, nil), table)
		wantTable(t, "delete nothing", impl.DeleteText(table, 0, 0), table)
		wantCode(t, "insert behind it", impl.InsertText(table, 1, []byte("y")), impl.ErrRange)
		wantCode(t, "delete of it", impl.DeleteText(table, 0, 1), impl.ErrRange)
		wantTable(t, "compact", impl.CompactTable(table), impl.Table{})
	}
}

func TestPlacesBeyondTheText(t *testing.T) {
	const top, bottom = math.MaxInt64, math.MinInt64
	for name, table := range goodTables() {
		size := int64(len(textOf(table)))
		for _, at := range []int64{-1, bottom, size + 1, top, top - size} {
			what := fmt.Sprintf("%s: at %d", name, at)
			wantCode(t, what, impl.InsertText(table, at, []byte("x")), impl.ErrRange)
			wantCode(t, what, impl.InsertText(table, at, nil), impl.ErrRange)
			for _, n := range []int64{0, 1, -1, top, bottom, -at} {
				wantCode(t, fmt.Sprintf("%s, n %d", what, n), impl.DeleteText(table, at, n), impl.ErrRange)
			}
		}
		for at := int64(0); at <= size; at++ {
			for _, n := range []int64{-1, bottom, size - at + 1, top, top - at, top - at + 1} {
				wantCode(t, fmt.Sprintf("%s: at %d, n %d", name, at, n), impl.DeleteText(table, at, n), impl.ErrRange)
			}
		}
	}
}

// The codes of an insert, where several are so, are asked in the order in which they are named.
func TestInsertCodesInOrder(t *testing.T) {
	full := singles(impl.MaxPieces)
	full.More = filled(maxStore)
	wantCode(t, "range ahead of large and many", impl.InsertText(full, impl.MaxPieces+1, filled(maxStore+1)), impl.ErrRange)
	wantCode(t, "range ahead of many", impl.InsertText(full, -1, filled(1)), impl.ErrRange)
	wantCode(t, "large ahead of many", impl.InsertText(full, 3, filled(impl.MaxText)), impl.ErrLarge)
	wantCode(t, "many", impl.InsertText(full, 3, filled(1)), impl.ErrMany)
	wantTable(t, "nothing ahead of many", impl.InsertText(full, 3, nil), full)
}
