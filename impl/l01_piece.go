package impl

import (
	"bytes"
	"slices"
)

const OK = 0
const ErrForm = 1
const ErrMany = 2
const ErrRange = 3
const ErrNone = 4
const ErrText = 5
const ErrLarge = 6
const ErrState = 7
const MaxText = 240
const MaxPieces = 40

type IntResult struct {
	Code  int64
	Value int64
}
type BytesResult struct {
	Code  int64
	Bytes []byte
}
type TextResult struct {
	Code int64
	Text string
}
type WordsResult struct {
	Code  int64
	Words []string
}
type Piece struct {
	Added bool
	From  int64
	Size  int64
}
type Table struct {
	Base   []byte
	More   []byte
	Pieces []Piece
}
type TableResult struct {
	Code  int64
	Table Table
}

// maxStore bounds Base and More, each by itself: what was deleted stays in them,
// so they may hold far more than the text does.
const maxStore = 2000

// run is a piece that tells its store by a mark of any kind, and knows nothing of
// bytes: cutting is a matter of places alone.
type run[S any] struct {
	store S
	from  int64
	size  int64
}

func (r run[S]) cut(at int64) (run[S], run[S]) {
	left := run[S]{store: r.store, from: r.from, size: at}
	right := run[S]{store: r.store, from: r.from + at, size: r.size - at}
	return left, right
}

// chain is runs one behind the other, of which each has a size of 1 on.
type chain[S any] []run[S]

func (c chain[S]) size() int64 {
	total := int64(0)
	for _, r := range c {
		total += r.size
	}
	return total
}

// split leaves c as it is: both parts are new, so that either may be appended to.
func (c chain[S]) split(at int64) (chain[S], chain[S]) {
	var ahead, behind chain[S]
	for _, r := range c {
		switch {
		case at >= r.size:
			ahead = append(ahead, r)
		case at <= 0:
			behind = append(behind, r)
		default:
			left, right := r.cut(at)
			ahead = append(ahead, left)
			behind = append(behind, right)
		}
		at -= r.size
	}
	return ahead, behind
}

func chainOf(pieces []Piece) chain[bool] {
	c := make(chain[bool], len(pieces))
	for i, p := range pieces {
		c[i] = run[bool]{store: p.Added, from: p.From, size: p.Size}
	}
	return c
}

func piecesOf(c chain[bool]) []Piece {
	pieces := make([]Piece, len(c))
	for i, r := range c {
		pieces[i] = Piece{Added: r.store, From: r.from, Size: r.size}
	}
	return pieces
}

func storeOf(t Table, added bool) []byte {
	if added {
		return t.More
	}
	return t.Base
}

func joinBytes(a []byte, b []byte) []byte {
	joined := make([]byte, len(a)+len(b))
	copy(joined, a)
	copy(joined[len(a):], b)
	return joined
}

func copyBytes(data []byte) []byte {
	return joinBytes(data, nil)
}

func copyTable(t Table) Table {
	return Table{Base: copyBytes(t.Base), More: copyBytes(t.More), Pieces: piecesOf(chainOf(t.Pieces))}
}

// liesIn holds Size against what is left behind From: their sum might overflow.
func liesIn(p Piece, store []byte) bool {
	return p.From >= 0 && p.Size >= 1 && p.Size <= int64(len(store))-p.From
}

func TableFault(t Table) int64 {
	if len(t.Base) > maxStore || len(t.More) > maxStore || len(t.Pieces) > MaxPieces {
		return ErrMany
	}
	for _, p := range t.Pieces {
		if !liesIn(p, storeOf(t, p.Added)) {
			return ErrRange
		}
	}
	if chainOf(t.Pieces).size() > MaxText {
		return ErrLarge
	}
	return OK
}

func NewTable(text []byte) TableResult {
	if len(text) > MaxText {
		return TableResult{Code: ErrLarge}
	}
	t := Table{Base: copyBytes(text)}
	if len(text) > 0 {
		t.Pieces = []Piece{{Size: int64(len(text))}}
	}
	return TableResult{Table: t}
}

func textOfPieces(t Table) []byte {
	text := make([]byte, chainOf(t.Pieces).size())
	at := 0
	for _, p := range t.Pieces {
		at += copy(text[at:], storeOf(t, p.Added)[p.From:p.From+p.Size])
	}
	return text
}

func TextOf(t Table) BytesResult {
	if code := TableFault(t); code != OK {
		return BytesResult{Code: code}
	}
	return BytesResult{Bytes: textOfPieces(t)}
}

func SizeOf(t Table) IntResult {
	if code := TableFault(t); code != OK {
		return IntResult{Code: code}
	}
	return IntResult{Value: chainOf(t.Pieces).size()}
}

func insertFault(t Table, at int64, data []byte) int64 {
	if code := TableFault(t); code != OK {
		return code
	}
	size := chainOf(t.Pieces).size()
	if at < 0 || at > size {
		return ErrRange
	}
	if int64(len(data)) > MaxText-size {
		return ErrLarge
	}
	if len(data) > 0 && len(data) > maxStore-len(t.More) {
		return ErrMany
	}
	return OK
}

func InsertText(t Table, at int64, data []byte) TableResult {
	if code := insertFault(t, at, data); code != OK {
		return TableResult{Code: code}
	}
	if len(data) == 0 {
		return TableResult{Table: copyTable(t)}
	}
	c, behind := chainOf(t.Pieces).split(at)
	c = append(c, run[bool]{store: true, from: int64(len(t.More)), size: int64(len(data))})
	c = append(c, behind...)
	if len(c) > MaxPieces {
		return TableResult{Code: ErrMany}
	}
	return TableResult{Table: Table{Base: copyBytes(t.Base), More: joinBytes(t.More, data), Pieces: piecesOf(c)}}
}

func deleteFault(t Table, at int64, n int64) int64 {
	if code := TableFault(t); code != OK {
		return code
	}
	// at and n are never added up: their sum might overflow.
	if at < 0 || n < 0 || n > chainOf(t.Pieces).size()-at {
		return ErrRange
	}
	return OK
}

func DeleteText(t Table, at int64, n int64) TableResult {
	if code := deleteFault(t, at, n); code != OK {
		return TableResult{Code: code}
	}
	// A cut where nothing is taken out would be a change of the pieces.
	if n == 0 {
		return TableResult{Table: copyTable(t)}
	}
	c, rest := chainOf(t.Pieces).split(at)
	_, behind := rest.split(n)
	c = append(c, behind...)
	if len(c) > MaxPieces {
		return TableResult{Code: ErrMany}
	}
	return TableResult{Table: Table{Base: copyBytes(t.Base), More: copyBytes(t.More), Pieces: piecesOf(c)}}
}

func CompactTable(t Table) TableResult {
	text := TextOf(t)
	if text.Code != OK {
		return TableResult{Code: text.Code}
	}
	return NewTable(text.Bytes)
}

func SameTables(a Table, b Table) bool {
	return bytes.Equal(a.Base, b.Base) && bytes.Equal(a.More, b.More) && slices.Equal(a.Pieces, b.Pieces)
}
