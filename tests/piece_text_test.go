package tests

import (
	"bytes"
	"fmt"
	"testing"

	"loop.example/g00606/impl"
)

func TestTextAndSizeOfGoodTables(t *testing.T) {
	for name, table := range goodTables() {
		want := textOf(table)
		if code := impl.TableFault(table); code != impl.OK {
			t.Errorf("%s: TableFault is %d", name, code)
		}
		if got := impl.TextOf(table); got.Code != impl.OK || !bytes.Equal(got.Bytes, want) {
			t.Errorf("%s: TextOf is %+v, want %q", name, got, want)
		}
		if got := impl.SizeOf(table); got.Code != impl.OK || got.Value != int64(len(want)) {
			t.Errorf("%s: SizeOf is %+v, want %d", name, got, len(want))
		}
	}
}

func TestNewTableIsOnePieceOfAll(t *testing.T) {
	for _, n := range []int{1, 2, 17, impl.MaxText} {
		text := filled(n)
		wantTable(t, fmt.Sprint(n), impl.NewTable(text), impl.Table{Base: text, Pieces: []impl.Piece{{Size: int64(n)}}})
	}
	wantTable(t, "nil", impl.NewTable(nil), impl.Table{})
	wantTable(t, "empty", impl.NewTable([]byte{}), impl.Table{})
}

// P2, for an insert: at each place of each table, so at both ends, where pieces meet, and within them.
func TestInsertAtEachPlace(t *testing.T) {
	for name, table := range goodTables() {
		old := textOf(table)
		for at := 0; at <= len(old); at++ {
			for _, data := range []string{"", "P", "QRS", "\x00\xff"} {
				what := fmt.Sprintf("%s: insert %q at %d", name, data, at)
				got := impl.InsertText(table, int64(at), []byte(data))
				wantTable(t, what, got, inserted(table, at, []byte(data)))
				want := string(old[:at]) + data + string(old[at:])
				if text := impl.TextOf(got.Table); text.Code != impl.OK || string(text.Bytes) != want {
					t.Errorf("%s: the text is %+v, want %q", what, text, want)
				}
			}
		}
	}
}

// P2, for a delete: each stretch of each table, so within a piece, whole pieces, and over several.
func TestDeleteEachStretch(t *testing.T) {
	for name, table := range goodTables() {
		old := textOf(table)
		for at := 0; at <= len(old); at++ {
			for n := 0; at+n <= len(old); n++ {
				what := fmt.Sprintf("%s: delete %d at %d", name, n, at)
				got := impl.DeleteText(table, int64(at), int64(n))
				wantTable(t, what, got, deleted(table, at, n))
				want := string(old[:at]) + string(old[at+n:])
				if text := impl.TextOf(got.Table); text.Code != impl.OK || string(text.Bytes) != want {
					t.Errorf("%s: the text is %+v, want %q", what, text, want)
				}
			}
		}
	}
}

func TestInsertCutsOnlyWithinAPiece(t *testing.T) {
	table := impl.Table{Base: []byte("abcd"), More: []byte("XY"), Pieces: []impl.Piece{{Size: 2}, {Added: true, Size: 2}}}
	want := map[int64][]impl.Piece{
		0: {{Added: true, From: 2, Size: 1}, {Size: 2}, {Added: true, Size: 2}},
		1: {{Size: 1}, {Added: true, From: 2, Size: 1}, {From: 1, Size: 1}, {Added: true, Size: 2}},
		2: {{Size: 2}, {Added: true, From: 2, Size: 1}, {Added: true, Size: 2}},
		3: {{Size: 2}, {Added: true, Size: 1}, {Added: true, From: 2, Size: 1}, {Added: true, From: 1, Size: 1}},
		4: {{Size: 2}, {Added: true, Size: 2}, {Added: true, From: 2, Size: 1}},
	}
	for at, pieces := range want {
		got := impl.InsertText(table, at, []byte("P"))
		wantTable(t, fmt.Sprint(at), got, impl.Table{Base: table.Base, More: []byte("XYP"), Pieces: pieces})
	}
}

func TestDeleteCutsOnlyWithinAPiece(t *testing.T) {
	table := impl.Table{Base: []byte("abcd"), More: []byte("XYZ"), Pieces: []impl.Piece{{Size: 4}, {Added: true, Size: 3}}}
	want := map[[2]int64][]impl.Piece{
		{0, 1}: {{From: 1, Size: 3}, {Added: true, Size: 3}},
		{1, 2}: {{Size: 1}, {From: 3, Size: 1}, {Added: true, Size: 3}},
		{0, 4}: {{Added: true, Size: 3}},
		{4, 3}: {{Size: 4}},
		{3, 2}: {{Size: 3}, {Added: true, From: 1, Size: 2}},
		{6, 1}: {{Size: 4}, {Added: true, Size: 2}},
		{0, 7}: {},
		{2, 0}: {{Size: 4}, {Added: true, Size: 3}},
	}
	for p, pieces := range want {
		got := impl.DeleteText(table, p[0], p[1])
		wantTable(t, fmt.Sprint(p), got, impl.Table{Base: table.Base, More: table.More, Pieces: pieces})
	}
}

// P2: in one piece it is the same text.
func TestCompactHasTheSameText(t *testing.T) {
	for name, table := range goodTables() {
		text := textOf(table)
		got := impl.CompactTable(table)
		want := impl.Table{Base: text}
		if len(text) > 0 {
			want.Pieces = []impl.Piece{{Size: int64(len(text))}}
		}
		wantTable(t, name, got, want)
		if again := impl.TextOf(got.Table); !bytes.Equal(again.Bytes, text) {
			t.Errorf("%s: compact has the text %q, want %q", name, again.Bytes, text)
		}
	}
}

// P2 over many edits in a row, held against plain bytes; what is too much for the pieces is compacted.
func TestManyEditsInARow(t *testing.T) {
	table, text := impl.Table{}, []byte{}
	seed := uint32(606)
	next := func(n int) int {
		seed = seed*1664525 + 1013904223
		return int(seed>>8) % n
	}
	crowded := 0
	for step := 0; step < 6000; step++ {
		at := next(len(text) + 1)
		var got impl.TableResult
		var want impl.Table
		var after []byte
		if next(2) == 0 {
			data := filled(next(9))
			if len(text)+len(data) > impl.MaxText || len(table.More)+len(data) > maxStore {
				table = impl.NewTable(text[:len(text)/2]).Table
				text = text[:len(text)/2]
				continue
			}
			got, want = impl.InsertText(table, int64(at), data), inserted(table, at, data)
			after = append(append(append([]byte{}, text[:at]...), data...), text[at:]...)
		} else {
			n := next(min(len(text)-at, 7) + 1)
			got, want = impl.DeleteText(table, int64(at), int64(n)), deleted(table, at, n)
			after = append(append([]byte{}, text[:at]...), text[at+n:]...)
		}
		if len(want.Pieces) > impl.MaxPieces {
			crowded++
			wantCode(t, "crowded", got, impl.ErrMany)
			got = impl.CompactTable(table)
			want, after = impl.NewTable(text).Table, text
		}
		wantTable(t, fmt.Sprint("step ", step), got, want)
		table, text = got.Table, after
		if out := impl.TextOf(table); out.Code != impl.OK || !bytes.Equal(out.Bytes, text) {
			t.Fatalf("step %d: the text is %+v, want %q", step, out, text)
		}
	}
	if crowded == 0 {
		t.Error("no edit was too much for the pieces: this test has to meet that")
	}
}

func TestSameTablesAsksForAll(t *testing.T) {
	base := func() impl.Table {
		return impl.Table{Base: []byte("abc"), More: []byte("XY"), Pieces: []impl.Piece{{Size: 2}, {Added: true, From: 1, Size: 1}}}
	}
	if !impl.SameTables(base(), base()) {
		t.Error("a table is not the same as itself")
	}
	turns := map[string]func(*impl.Table){
		"a byte of Base":  func(x *impl.Table) { x.Base[2] = 'x' },
		"a byte of More":  func(x *impl.Table) { x.More[0] = 'x' },
		"longer Base":     func(x *impl.Table) { x.Base = append(x.Base, 'd') },
		"shorter Base":    func(x *impl.Table) { x.Base = x.Base[:2] },
		"longer More":     func(x *impl.Table) { x.More = append(x.More, 0) },
		"no More":         func(x *impl.Table) { x.More = nil },
		"Added":           func(x *impl.Table) { x.Pieces[0].Added = true },
		"From":            func(x *impl.Table) { x.Pieces[0].From = 1 },
		"Size":            func(x *impl.Table) { x.Pieces[1].Size = 2 },
		"one piece less":  func(x *impl.Table) { x.Pieces = x.Pieces[:1] },
		"one piece more":  func(x *impl.Table) { x.Pieces = append(x.Pieces, impl.Piece{Size: 1}) },
		"other order":     func(x *impl.Table) { x.Pieces[0], x.Pieces[1] = x.Pieces[1], x.Pieces[0] },
		"stores swapped":  func(x *impl.Table) { x.Base, x.More = x.More, x.Base },
		"same text alone": func(x *impl.Table) { *x = impl.CompactTable(*x).Table },
	}
	for name, turn := range turns {
		other := base()
		turn(&other)
		if impl.SameTables(base(), other) || impl.SameTables(other, base()) {
			t.Errorf("%s: tables that differ are told to be the same", name)
		}
	}
}

// SameTables tells of all tables, those with a fault among them.
func TestSameTablesOfFaultyOnes(t *testing.T) {
	for name, bad := range badTables() {
		if !impl.SameTables(bad.table, deepCopy(bad.table)) {
			t.Errorf("%s: a table with a fault is not the same as its copy", name)
		}
		if impl.SameTables(bad.table, impl.Table{}) {
			t.Errorf("%s: a table with a fault is the same as nothing", name)
		}
	}
}
