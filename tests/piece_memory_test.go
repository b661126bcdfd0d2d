package tests

import (
	"testing"

	"loop.example/g00606/impl"
)

// tableCalls are the calls that answer a table, each of a table and of bytes.
func tableCalls() map[string]func(impl.Table, []byte) impl.TableResult {
	return map[string]func(impl.Table, []byte) impl.TableResult{
		"new":            func(t impl.Table, data []byte) impl.TableResult { return impl.NewTable(data) },
		"insert":         func(t impl.Table, data []byte) impl.TableResult { return impl.InsertText(t, 1, data) },
		"insert ahead":   func(t impl.Table, data []byte) impl.TableResult { return impl.InsertText(t, 0, data) },
		"insert nothing": func(t impl.Table, data []byte) impl.TableResult { return impl.InsertText(t, 1, nil) },
		"insert beyond":  func(t impl.Table, data []byte) impl.TableResult { return impl.InsertText(t, 999, data) },
		"delete":         func(t impl.Table, data []byte) impl.TableResult { return impl.DeleteText(t, 1, 2) },
		"delete nothing": func(t impl.Table, data []byte) impl.TableResult { return impl.DeleteText(t, 1, 0) },
		"delete beyond":  func(t impl.Table, data []byte) impl.TableResult { return impl.DeleteText(t, 1, 999) },
		"compact":        func(t impl.Table, data []byte) impl.TableResult { return impl.CompactTable(t) },
	}
}

// memoryTables are good ones and bad ones: a call changes neither.
func memoryTables() map[string]impl.Table {
	tables := goodTables()
	for name, bad := range badTables() {
		tables["bad: "+name] = bad.table
	}
	return tables
}

// P1: no call changes an argument, not even the room behind it.
func TestNoCallChangesItsArguments(t *testing.T) {
	for name, table := range memoryTables() {
		arg, data := roomy(table), roomyBytes([]byte("PQ"))
		before, dataBefore := deepCopy(whole(arg)), string(data[:cap(data)])
		for _, call := range tableCalls() {
			call(arg, data)
		}
		impl.TableFault(arg)
		impl.TextOf(arg)
		impl.SizeOf(arg)
		impl.SameTables(arg, roomy(table))
		if !sameTable(whole(arg), before) || string(data[:cap(data)]) != dataBefore {
			t.Errorf("%s: a call changed its arguments", name)
		}
	}
}

// P1: an answer is new memory, whichever of both is written to.
func TestNoAnswerSharesWithItsArguments(t *testing.T) {
	for name, table := range memoryTables() {
		for callName, call := range tableCalls() {
			arg, data := roomy(table), roomyBytes([]byte("PQ"))
			got := call(arg, data)
			want, before := deepCopy(got.Table), deepCopy(whole(arg))
			scribble(got.Table)
			if !sameTable(whole(arg), before) || string(data) != "PQ" {
				t.Errorf("%s, %s: what is written to the answer is seen in an argument", name, callName)
			}
			got = call(arg, data)
			scribble(arg)
			scribbleBytes(data)
			if !sameTable(got.Table, want) {
				t.Errorf("%s, %s: what is written to an argument is seen in the answer", name, callName)
			}
		}
	}
}

func TestNoTextSharesWithItsTable(t *testing.T) {
	for name, table := range goodTables() {
		arg := roomy(table)
		before := deepCopy(whole(arg))
		got := impl.TextOf(arg)
		scribbleBytes(got.Bytes)
		if !sameTable(whole(arg), before) {
			t.Errorf("%s: what is written to the text is seen in the table", name)
		}
		got = impl.TextOf(arg)
		scribble(arg)
		if string(got.Bytes) != string(textOf(table)) {
			t.Errorf("%s: what is written to the table is seen in the text", name)
		}
	}
}

// P1: no two lists of one answer share memory, not even the room behind them.
func TestNoListsOfOneAnswerShare(t *testing.T) {
	for name, table := range goodTables() {
		for callName, call := range tableCalls() {
			got := call(roomy(table), []byte("PQ")).Table
			want := deepCopy(got)
			scribbleBytes(got.Base)
			if string(got.More) != string(want.More) {
				t.Errorf("%s, %s: Base and More share memory", name, callName)
			}
			got = call(roomy(table), []byte("PQ")).Table
			scribbleBytes(got.More)
			if string(got.Base) != string(want.Base) {
				t.Errorf("%s, %s: More and Base share memory", name, callName)
			}
		}
	}
	// One list handed in as both: the answer has two.
	both := filled(6)
	table := impl.Table{Base: both, More: both, Pieces: []impl.Piece{{Size: 3}, {Added: true, From: 3, Size: 3}}}
	for callName, call := range tableCalls() {
		got := call(table, both[:2]).Table
		want := string(got.More)
		scribbleBytes(got.Base)
		if string(got.More) != want {
			t.Errorf("%s: Base and More of one list share memory", callName)
		}
	}
}

// P1: what is answered hangs on the arguments alone, not on what was called ahead of it.
func TestCallsKeepNothing(t *testing.T) {
	first := map[string]impl.TableResult{}
	for round := 0; round < 3; round++ {
		for name, table := range memoryTables() {
			for callName, call := range tableCalls() {
				got, key := call(table, []byte("PQ")), name+"/"+callName
				want, known := first[key]
				if known && (got.Code != want.Code || !sameTable(got.Table, want.Table)) {
					t.Errorf("%s: %+v at first, %+v behind other calls", key, want, got)
				}
				first[key] = got
			}
		}
	}
}

// P1: nil and an empty list are the same value, in arguments and in what is held against each other.
func TestNilAndEmptyAreTheSame(t *testing.T) {
	none := impl.Table{}
	empty := impl.Table{Base: []byte{}, More: make([]byte, 0, 5), Pieces: []impl.Piece{}}
	if !impl.SameTables(none, empty) || !impl.SameTables(empty, none) {
		t.Error("a table of nils and one of empty lists are not the same")
	}
	if impl.TableFault(none) != impl.OK || impl.TableFault(empty) != impl.OK {
		t.Error("a table of nothing has a fault")
	}
	for callName, call := range tableCalls() {
		for _, data := range [][]byte{nil, {}, []byte("PQ")} {
			a, b := call(none, data), call(empty, data)
			if a.Code != b.Code || !sameTable(a.Table, b.Table) {
				t.Errorf("%s: %+v of nils, %+v of empty lists", callName, a, b)
			}
		}
		table := goodTables()["both"]
		a, b := call(table, nil), call(table, []byte{})
		if a.Code != b.Code || !sameTable(a.Table, b.Table) {
			t.Errorf("%s: %+v of nil bytes, %+v of empty ones", callName, a, b)
		}
	}
}
