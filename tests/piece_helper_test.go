package tests

import (
	"bytes"
	"testing"

	"loop.example/g00606/impl"
)

// maxStore is the document's bound of Base and of More.
const maxStore = 2000

// cell is one byte of a text: where it is stored, and whether a piece begins with it.
type cell struct {
	added bool
	place int64
	first bool
}

func cellsOf(t impl.Table) []cell {
	var cells []cell
	for _, p := range t.Pieces {
		for k := int64(0); k < p.Size; k++ {
			cells = append(cells, cell{added: p.Added, place: p.From + k, first: k == 0})
		}
	}
	return cells
}

func piecesOf(cells []cell) []impl.Piece {
	var pieces []impl.Piece
	for _, c := range cells {
		if c.first {
			pieces = append(pieces, impl.Piece{Added: c.added, From: c.place})
		}
		pieces[len(pieces)-1].Size++
	}
	return pieces
}

func textOf(t impl.Table) []byte {
	var text []byte
	for _, c := range cellsOf(t) {
		if c.added {
			text = append(text, t.More[c.place])
		} else {
			text = append(text, t.Base[c.place])
		}
	}
	return text
}

// inserted is what the document asks of an insert with no code, worked out byte by byte.
func inserted(t impl.Table, at int, data []byte) impl.Table {
	cells := cellsOf(t)
	if len(data) == 0 {
		return t
	}
	if at < len(cells) {
		cells[at].first = true
	}
	var put []cell
	for k := range data {
		put = append(put, cell{added: true, place: int64(len(t.More) + k), first: k == 0})
	}
	all := append(append(append([]cell{}, cells[:at]...), put...), cells[at:]...)
	return impl.Table{Base: t.Base, More: append(append([]byte{}, t.More...), data...), Pieces: piecesOf(all)}
}

// deleted is what the document asks of a delete with no code, worked out byte by byte.
func deleted(t impl.Table, at int, n int) impl.Table {
	cells := cellsOf(t)
	if n == 0 {
		return t
	}
	if at+n < len(cells) {
		cells[at+n].first = true
	}
	all := append(append([]cell{}, cells[:at]...), cells[at+n:]...)
	return impl.Table{Base: t.Base, More: t.More, Pieces: piecesOf(all)}
}

// sameTable does not ask the program whether two tables are the same.
func sameTable(a, b impl.Table) bool {
	if !bytes.Equal(a.Base, b.Base) || !bytes.Equal(a.More, b.More) || len(a.Pieces) != len(b.Pieces) {
		return false
	}
	for i := range a.Pieces {
		if a.Pieces[i] != b.Pieces[i] {
			return false
		}
	}
	return true
}

func isEmptyTable(t impl.Table) bool {
	return sameTable(t, impl.Table{})
}

// wantTable holds an answer with no code against the table it has to be.
func wantTable(t *testing.T, what string, got impl.TableResult, want impl.Table) {
	t.Helper()
	if got.Code != impl.OK || !sameTable(got.Table, want) {
		t.Errorf("%s: got %+v, want %+v", what, got, want)
	}
}

// wantCode holds an answer against a code beside which all else is zero.
func wantCode(t *testing.T, what string, got impl.TableResult, code int64) {
	t.Helper()
	if got.Code != code || !isEmptyTable(got.Table) {
		t.Errorf("%s: got %+v, want the code %d and nothing else", what, got, code)
	}
}

func filled(n int) []byte {
	data := make([]byte, n)
	for i := range data {
		data[i] = byte(i%251 + 1)
	}
	return data
}

// singles is a table of n pieces of one byte each.
func singles(n int) impl.Table {
	t := impl.Table{Base: filled(n)}
	for i := 0; i < n; i++ {
		t.Pieces = append(t.Pieces, impl.Piece{From: int64(i), Size: 1})
	}
	return t
}

// wide is a table of n pieces, of three bytes the first one, of one byte the others.
func wide(n int) impl.Table {
	t := singles(n + 2)
	t.Pieces = append([]impl.Piece{{From: 0, Size: 3}}, t.Pieces[3:]...)
	return t
}

// goodTables are tables without a fault: each shape of pieces that cutting may meet.
func goodTables() map[string]impl.Table {
	return map[string]impl.Table{
		"nothing":         {},
		"stores, no text": {Base: []byte("abc"), More: []byte("XY")},
		"one byte":        {Base: []byte("a"), Pieces: []impl.Piece{{Size: 1}}},
		"one piece":       {Base: []byte("abcdef"), Pieces: []impl.Piece{{Size: 6}}},
		"one of More":     {More: []byte("UVWXY"), Pieces: []impl.Piece{{Added: true, From: 1, Size: 3}}},
		"both":            {Base: []byte("abcd"), More: []byte("XYZ"), Pieces: []impl.Piece{{Size: 2}, {Added: true, Size: 3}, {From: 2, Size: 2}}},
		"that would join": {Base: []byte("abcd"), Pieces: []impl.Piece{{Size: 2}, {From: 2, Size: 2}}},
		"out of order":    {Base: []byte("abcde"), More: []byte("X"), Pieces: []impl.Piece{{From: 3, Size: 2}, {Added: true, Size: 1}, {From: 3, Size: 2}, {Size: 4}}},
		"single bytes":    singles(7),
		"zero bytes":      {Base: []byte{0, 10, 255}, More: []byte{0}, Pieces: []impl.Piece{{From: 0, Size: 3}, {Added: true, Size: 1}}},
	}
}

// roomy is a deep copy whose lists have more room than they need, so that a
// program that appends to them in place is found out.
func roomy(t impl.Table) impl.Table {
	return impl.Table{
		Base:   roomyBytes(t.Base),
		More:   roomyBytes(t.More),
		Pieces: append(make([]impl.Piece, 0, len(t.Pieces)+8), t.Pieces...),
	}
}

func roomyBytes(data []byte) []byte {
	return append(make([]byte, 0, len(data)+8), data...)
}

// whole shows a table with all the room of its lists.
func whole(t impl.Table) impl.Table {
	return impl.Table{Base: t.Base[:cap(t.Base)], More: t.More[:cap(t.More)], Pieces: t.Pieces[:cap(t.Pieces)]}
}

func deepCopy(t impl.Table) impl.Table {
	return impl.Table{
		Base:   append([]byte{}, t.Base...),
		More:   append([]byte{}, t.More...),
		Pieces: append([]impl.Piece{}, t.Pieces...),
	}
}

func scribbleBytes(data []byte) {
	data = data[:cap(data)]
	for i := range data {
		data[i] ^= 0x5a
	}
}

func scribblePieces(list []impl.Piece) {
	list = list[:cap(list)]
	for i := range list {
		list[i] = impl.Piece{Added: !list[i].Added, From: list[i].From + 7, Size: list[i].Size + 7}
	}
}

func scribble(t impl.Table) {
	scribbleBytes(t.Base)
	scribbleBytes(t.More)
	scribblePieces(t.Pieces)
}
