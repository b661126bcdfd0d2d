package tests

import (
	"strings"
	"testing"

	"loop.example/g00606/impl"
)

// toldEdit is an edit with all that it has to answer, told.
type toldEdit struct {
	text  string
	step  int64
	edit  edit
	out   string
	meet  int64
	read  int64
	bound int64
}

// wantToldEdits holds edits against what is told, and against the document.
func wantToldEdits(t *testing.T, all ...toldEdit) {
	t.Helper()
	for _, c := range all {
		m := madeMemo(c.text, c.step)
		what, put := briefEdit(m, c.edit), []byte(c.edit.put)
		got := impl.EditMemo(m, c.edit.at, c.edit.n, put)
		meet := impl.MeetOf(m, c.edit.at, c.edit.n, put)
		bound := impl.ReadBound(m, c.edit.at, c.edit.n, put)
		if got.Code != impl.OK || string(got.Memo.Data) != c.out || got.Memo.Step != c.step {
			t.Errorf("EditMemo %s: got code %d, %s, want %q", what, got.Code, briefMemo(got.Memo), c.out)
		}
		if meet != (impl.IntResult{Value: c.meet}) || got.Read != c.read || bound != (impl.IntResult{Value: c.bound}) {
			t.Errorf("%s: got the meet %+v, read %d, the bound %+v, want %d, %d, %d", what, meet, got.Read, bound, c.meet, c.read, c.bound)
		}
		wantEdit(t, m, c.edit)
	}
}

// The memo that an edit leads to, all of it told.
func TestAnEditThatIsTold(t *testing.T) {
	m := madeMemo("ab<b>cdefgh", 2)
	want := impl.Memo{
		Data: []byte("ab<b>cXYZefgh"), Step: 2, Tokens: joined(asBytes("ab"), list(start("b")), asBytes("cXYZefgh")),
		Checks: []impl.Check{check(0, 0, ""), check(2, 2, ""), check(4, 2, "<b"), check(6, 4, ""), check(8, 6, ""), check(10, 8, ""), check(12, 10, "")},
	}
	wantMemo(t, "EditMemo", impl.EditMemo(m, 6, 1, []byte("XYZ")), impl.MemoResult{Read: 4, Memo: want})
	wantToldEdits(t,
		toldEdit{"ab<b>cdefgh", 2, edit{6, 1, "XYZ"}, "ab<b>cXYZefgh", 10, 4, 7},
		toldEdit{"ab<b>cdefgh", 2, edit{3, 0, "\""}, "ab<\"b>cdefgh", 12, 10, 10},
	)
	held := impl.Memo{Data: []byte("ab<\"b>c"), Step: 3, Tokens: asBytes("ab"), Held: []byte("<\"b>c"), Checks: []impl.Check{check(0, 0, ""), check(3, 2, "<"), check(6, 2, "<\"b>")}}
	wantMemo(t, "EditMemo", impl.EditMemo(madeMemo("ab<b>c", 3), 3, 0, []byte("\"")), impl.MemoResult{Read: 4, Memo: held})
}

// A check that stands right at the end of what was put is the meet, if what is held there is the same.
func TestAMeetRightBehindWhatWasPut(t *testing.T) {
	wantToldEdits(t,
		toldEdit{"abcdef", 2, edit{1, 1, "X"}, "aXcdef", 2, 2, 6},
		toldEdit{"abcdef", 2, edit{2, 2, "XYZW"}, "abXYZWef", 6, 4, 6},
		toldEdit{"abcdef", 2, edit{2, 2, ""}, "abef", 2, 0, 2},
		toldEdit{"abcdef", 2, edit{3, 1, ""}, "abcef", 3, 1, 3},
		toldEdit{"abcdef", 3, edit{0, 3, "<b>"}, "<b>def", 3, 3, 6},
		toldEdit{"ab<b>cd", 3, edit{0, 3, "<"}, "<b>cd", 1, 1, 5},
		toldEdit{"ab<b>cd", 3, edit{2, 1, "&<"}, "ab&<b>cd", 4, 4, 8},
		toldEdit{"ab<b>cd", 4, edit{1, 3, "<b"}, "a<b>cd", 3, 3, 6},
		toldEdit{"ab<b>cd", 4, edit{3, 1, "b"}, "ab<b>cd", 4, 4, 7},
	)
}

// One that stands there in the old text, but holds other bytes, is none: nor one that held something, where nothing is held, nor the other way round.
func TestAMeetThatHoldsOtherBytes(t *testing.T) {
	wantToldEdits(t,
		toldEdit{"ab<b>cd", 4, edit{3, 1, "i"}, "ab<i>cd", 7, 7, 7},
		toldEdit{"ab<b>cd", 2, edit{3, 1, "i"}, "ab<i>cd", 6, 4, 5},
		toldEdit{"ab<b>cd", 4, edit{3, 1, "bb"}, "ab<bb>cd", 8, 8, 8},
		toldEdit{"ab<b>cd", 4, edit{2, 2, ""}, "ab>cd", 5, 5, 5},
		toldEdit{"ab<b>cd", 2, edit{2, 2, ""}, "ab>cd", 4, 2, 3},
		toldEdit{"abcdef", 2, edit{3, 1, "<"}, "abc<ef", 6, 4, 4},
		toldEdit{"abc&ef", 2, edit{3, 1, "<"}, "abc<ef", 6, 4, 4},
		toldEdit{"abc&", 2, edit{3, 1, "<"}, "abc<", 4, 2, 2},
		toldEdit{"a&amp;b", 5, edit{2, 1, "b"}, "a&bmp;b", 7, 7, 7},
	)
}

// Checks are those of the old memo, at places of the old text, wherever those of the new one stand.
func TestChecksOfTheOldText(t *testing.T) {
	wantToldEdits(t,
		toldEdit{"aaaa", 2, edit{0, 0, "b"}, "baaaa", 1, 1, 5},
		toldEdit{"aaaa", 2, edit{1, 0, "b"}, "abaaa", 3, 3, 5},
		toldEdit{"aaaa", 2, edit{0, 1, ""}, "aaa", 1, 1, 3},
		toldEdit{"aaaaaa", 3, edit{1, 1, "bbb"}, "abbbaaaa", 5, 5, 8},
		toldEdit{"aaaaaaaa", 4, edit{1, 2, ""}, "aaaaaa", 2, 2, 6},
		toldEdit{"aaaaaaaa", 4, edit{5, 2, "b"}, "aaaaaba", 7, 3, 3},
		toldEdit{"aaaaaaaaa", 4, edit{5, 2, "b"}, "aaaaabaa", 7, 3, 4},
		toldEdit{"aaaaaaaa", 4, edit{2, 6, "bbbbb"}, "aabbbbb", 7, 7, 7},
	)
	// The places of the new text at which its own checks stand are not asked for one: 4 and 8 here.
	wantToldEdits(t, toldEdit{"abcdefghijk", 4, edit{1, 0, "X"}, "aXbcdefghijk", 5, 5, 12})
}

// Edits that open or shut a quote, a note, a tag or a reference.
func TestEditsThatOpenAndShut(t *testing.T) {
	wantToldEdits(t,
		toldEdit{"a<b>cdef", 2, edit{3, 0, "\""}, "a<b\">cdef", 9, 7, 7},
		toldEdit{"a<b\">cdef", 2, edit{3, 1, ""}, "a<b>cdef", 8, 6, 6},
		toldEdit{"<a b=\"x>y<i>z", 5, edit{7, 0, "\""}, "<a b=\"x\">y<i>z", 14, 9, 9},
		toldEdit{"<!--ab-->cd", 4, edit{5, 0, "\""}, "<!--a\"b-->cd", 12, 8, 8},
		toldEdit{"<!--ab-->cd", 5, edit{5, 0, "\""}, "<!--a\"b-->cd", 11, 6, 7},
		toldEdit{"<!-ab-->cd", 5, edit{3, 0, "-"}, "<!--ab-->cd", 11, 11, 11},
		toldEdit{"<!-ab-->cd", 3, edit{3, 0, "-"}, "<!--ab-->cd", 10, 7, 8},
		toldEdit{"<!--abcdef", 5, edit{6, 0, "-->"}, "<!--ab-->cdef", 13, 8, 8},
		toldEdit{"abcdef", 2, edit{3, 0, "<b>"}, "abc<b>def", 7, 5, 7},
		toldEdit{"ab<cdef", 2, edit{5, 0, ">"}, "ab<cd>ef", 8, 4, 4},
		toldEdit{"ab<cd>ef", 2, edit{5, 1, ""}, "ab<cdef", 7, 3, 3},
		toldEdit{"&ltabc", 2, edit{3, 0, ";"}, "&lt;abc", 7, 5, 5},
		toldEdit{"&lt;abc", 3, edit{3, 1, ""}, "&ltabc", 6, 3, 3},
		toldEdit{"&lt;abc", 3, edit{1, 1, "g"}, "&gt;abc", 6, 6, 7},
		toldEdit{"&lt;abc", 2, edit{0, 1, ""}, "lt;abc", 3, 3, 6},
		toldEdit{"lt;abc", 2, edit{0, 0, "&"}, "&lt;abc", 5, 5, 7},
	)
}

// Edits within a tag, ahead of it and behind it. Ahead of it the meet may be within it.
func TestEditsAroundATag(t *testing.T) {
	wantToldEdits(t,
		toldEdit{"ab<b>cd", 3, edit{0, 1, "xyz"}, "xyzb<b>cd", 5, 5, 9},
		toldEdit{"ab<b>cd", 3, edit{1, 0, "<i>"}, "a<i>b<b>cd", 6, 6, 10},
		toldEdit{"ab<b>cd", 3, edit{2, 0, "<"}, "ab<<b>cd", 4, 4, 8},
		toldEdit{"ab<b>cd", 3, edit{2, 0, "&"}, "ab&<b>cd", 4, 4, 8},
		toldEdit{"ab<b>cd", 3, edit{3, 0, " "}, "ab< b>cd", 7, 4, 5},
		toldEdit{"ab<b>cd", 3, edit{4, 0, " x=\"y\""}, "ab<b x=\"y\">cd", 12, 9, 10},
		toldEdit{"ab<b>cd", 3, edit{3, 1, "<b"}, "ab<<b>cd", 7, 4, 5},
		toldEdit{"ab<b>cd", 3, edit{4, 1, ""}, "ab<bcd", 6, 3, 3},
		toldEdit{"ab<b>cd", 3, edit{5, 0, "x"}, "ab<b>xcd", 7, 4, 5},
		toldEdit{"ab<b>cd", 3, edit{6, 1, ""}, "ab<b>c", 6, 0, 0},
		toldEdit{"ab<b>cd", 3, edit{2, 3, ""}, "abcd", 3, 3, 4},
		toldEdit{"ab<b>cd", 3, edit{2, 3, "</b>"}, "ab</b>cd", 7, 7, 8},
	)
}

// What is put is longer than what is cut, shorter, and has the same number of bytes.
func TestPutsOfAllSizes(t *testing.T) {
	wantToldEdits(t,
		toldEdit{"abcdefgh", 4, edit{2, 2, "XY"}, "abXYefgh", 4, 4, 8},
		toldEdit{"abcdefgh", 4, edit{1, 2, "XY"}, "aXYdefgh", 4, 4, 8},
		toldEdit{"abcdefgh", 4, edit{1, 2, "X"}, "aXdefgh", 3, 3, 7},
		toldEdit{"abcdefgh", 4, edit{1, 2, "XYZ"}, "aXYZdefgh", 5, 5, 9},
		toldEdit{"abcdefgh", 4, edit{3, 5, "X"}, "abcX", 4, 4, 4},
		toldEdit{"abcdefgh", 4, edit{3, 4, "XYZXYZ"}, "abcXYZXYZh", 10, 10, 10},
	)
	for _, put := range []string{"", "X", "XYZ", "XYZXYZXYZ", "<b>", "<b", "&lt;", "\""} {
		for _, step := range []int64{1, 2, 3, 4, 8, 60} {
			wantEdits(t, "abc<d>ef", []int64{step}, allEdits(8, put))
		}
	}
}

// Nothing is cut, nothing is put, and neither: at a check nothing is read then, elsewhere up to the next one.
func TestNothingIsCutOrPut(t *testing.T) {
	wantToldEdits(t,
		toldEdit{"abcde", 2, edit{0, 0, ""}, "abcde", 0, 0, 5},
		toldEdit{"abcde", 2, edit{1, 0, ""}, "abcde", 2, 2, 5},
		toldEdit{"abcde", 2, edit{2, 0, ""}, "abcde", 2, 0, 3},
		toldEdit{"abcde", 2, edit{5, 0, ""}, "abcde", 5, 1, 1},
		toldEdit{"a<b>e", 3, edit{3, 0, ""}, "a<b>e", 3, 0, 2},
		toldEdit{"a<b>e", 3, edit{2, 0, ""}, "a<b>e", 3, 3, 5},
		toldEdit{"abcde", 2, edit{1, 3, ""}, "ae", 1, 1, 2},
		toldEdit{"abcde", 2, edit{1, 0, "xyz"}, "axyzbcde", 5, 5, 8},
		toldEdit{"abcde", 2, edit{3, 2, "de"}, "abcde", 5, 3, 3},
	)
	for _, m := range memosOfAllKinds() {
		for at := range int64(len(m.Data)) + 1 {
			if made := wantEdit(t, m, edit{at, 0, ""}); shownMemo(made) != shownMemo(m) {
				t.Errorf("%s: got %s", briefEdit(m, edit{at, 0, ""}), briefMemo(made))
			}
		}
	}
}

// Edits at 0, at the end, and of all of Data.
func TestEditsAtTheEnds(t *testing.T) {
	wantToldEdits(t,
		toldEdit{"abcd", 2, edit{0, 0, "<b>"}, "<b>abcd", 3, 3, 7},
		toldEdit{"abcd", 2, edit{0, 0, "<b"}, "<babcd", 6, 6, 6},
		toldEdit{"abcd", 2, edit{4, 0, "x"}, "abcdx", 5, 1, 1},
		toldEdit{"abcde", 2, edit{5, 0, "x"}, "abcdex", 6, 2, 2},
		toldEdit{"abcd", 2, edit{4, 0, "<"}, "abcd<", 5, 1, 1},
		toldEdit{"abc<", 2, edit{4, 0, "b>"}, "abc<b>", 6, 2, 2},
		toldEdit{"abcd", 2, edit{3, 1, ""}, "abc", 3, 1, 1},
		toldEdit{"abcd", 2, edit{0, 4, "xy"}, "xy", 2, 2, 2},
		toldEdit{"abcd", 2, edit{0, 4, "x<"}, "x<", 2, 2, 2},
		toldEdit{"abcd", 2, edit{0, 4, ""}, "", 0, 0, 0},
		toldEdit{"abc<", 2, edit{0, 4, ""}, "", 0, 0, 0},
	)
}

// Memos of no bytes have the check at 0, and an edit of one reads what was put.
func TestEditsOfNoBytes(t *testing.T) {
	for step := range int64(60) {
		wantToldEdits(t,
			toldEdit{"", step + 1, edit{0, 0, ""}, "", 0, 0, 0},
			toldEdit{"", step + 1, edit{0, 0, "ab"}, "ab", 2, 2, 2},
			toldEdit{"", step + 1, edit{0, 0, "a<"}, "a<", 2, 2, 2},
			toldEdit{"", step + 1, edit{0, 0, "<b>&lt;"}, "<b>&lt;", 7, 7, 7},
		)
	}
	full := strings.Repeat("x", 240)
	wantToldEdits(t, toldEdit{"", 60, edit{0, 0, full}, full, 240, 240, 240}, toldEdit{full, 60, edit{0, 240, ""}, "", 0, 0, 0})
	for _, nothing := range nothings[byte]() {
		m := impl.Memo{Data: nothing, Step: 5, Held: nothing, Checks: []impl.Check{{Held: nothing}}}
		wantMemo(t, "EditMemo of nothing", impl.EditMemo(m, 0, 0, nothing), impl.MemoResult{Memo: madeMemo("", 5)})
		wantTold(t, "SpliceBytes of nothing", impl.SpliceBytes(nothing, 0, 0, nothing), impl.BytesResult{})
	}
}

// A meet at the end of the new text, with a check there that is met, with one that holds other bytes, and without one.
func TestAMeetAtTheEnd(t *testing.T) {
	wantToldEdits(t,
		toldEdit{"abcd", 2, edit{4, 0, ""}, "abcd", 4, 0, 0},
		toldEdit{"abcd", 2, edit{3, 1, "x"}, "abcx", 4, 2, 2},
		toldEdit{"abcd", 4, edit{1, 0, "xyz"}, "axyzbcd", 7, 7, 7},
		toldEdit{"abc<", 4, edit{1, 0, "xyz"}, "axyzbc<", 7, 7, 7},
		toldEdit{"abc<", 4, edit{3, 1, ">"}, "abc>", 4, 4, 4},
		toldEdit{"abc<", 4, edit{0, 3, "<"}, "<<", 2, 2, 2},
		toldEdit{"abcde", 2, edit{4, 0, "x"}, "abcdxe", 5, 1, 2},
		toldEdit{"abcde", 2, edit{5, 0, ""}, "abcde", 5, 1, 1},
		toldEdit{"abcde", 4, edit{4, 1, "x"}, "abcdx", 5, 1, 1},
		toldEdit{"abcde", 60, edit{0, 1, "x"}, "xbcde", 5, 5, 5},
	)
}

// Steps of 1 meet as soon as what is held is the same, steps of 60 at their checks alone.
func TestTheLeastAndTheGreatestStep(t *testing.T) {
	full := strings.Repeat("x", 240)
	with := func(at int, put string) string { return full[:at] + put + full[at+1:] }
	wantToldEdits(t,
		toldEdit{"a<b>c&lt;d", 1, edit{2, 1, "i"}, "a<i>c&lt;d", 4, 2, 8},
		toldEdit{"a<b>c&lt;d", 1, edit{6, 1, "g"}, "a<b>c&gt;d", 9, 3, 4},
		toldEdit{"a<b>c&lt;d", 1, edit{5, 4, ""}, "a<b>cd", 5, 0, 1},
		toldEdit{"a<b>c&lt;d", 60, edit{9, 0, "x"}, "a<b>c&lt;xd", 11, 11, 11},
		toldEdit{full, 60, edit{120, 1, "y"}, with(120, "y"), 180, 60, 120},
		toldEdit{full, 60, edit{119, 1, "y"}, with(119, "y"), 120, 60, 180},
		toldEdit{full, 60, edit{181, 1, "y"}, with(181, "y"), 240, 60, 60},
		toldEdit{full, 1, edit{120, 1, "y"}, with(120, "y"), 121, 1, 120},
		toldEdit{full, 1, edit{240, 0, ""}, full, 240, 0, 0},
		toldEdit{full[:239], 60, edit{181, 0, "y"}, with(181, "y"), 240, 60, 60},
	)
}

// What is held is let go at the 160th byte, which is another one behind an edit: there, too, is a place where all is as it was.
func TestEditsOfWhatIsHeldUpToItsBound(t *testing.T) {
	open := filledUp(200, "<", "x", "")
	wantToldEdits(t,
		toldEdit{open, 20, edit{10, 0, "x"}, open + "x", 161, 161, 201},
		toldEdit{open, 20, edit{10, 1, ""}, open[:199], 179, 179, 199},
		toldEdit{open, 20, edit{10, 1, "y"}, open[:10] + "y" + open[11:], 160, 160, 200},
		toldEdit{open, 20, edit{0, 1, ""}, open[1:], 159, 159, 199},
		toldEdit{open[1:], 20, edit{0, 0, "<"}, open, 161, 161, 200},
		toldEdit{open, 20, edit{150, 0, "<"}, open[:150] + "<" + open[150:], 201, 61, 61},
		toldEdit{open, 20, edit{161, 0, "x"}, open + "x", 181, 21, 41},
	)
	for _, c := range [][2]string{{"<!--", "x"}, {"<b \"", ">"}, {"<b \"", "<"}, {"<!--", ">"}} {
		text := filledUp(230, c[0], c[1], "")
		for _, step := range []int64{1, 13, 40, 60} {
			wantEdits(t, text, []int64{step}, []edit{{0, 0, "y"}, {0, 1, ""}, {5, 0, "y"}, {5, 1, ""}, {100, 3, "\""}, {158, 0, ">"}, {159, 1, "\">"}, {160, 0, "-->"}, {160, 1, ""}, {229, 1, "<"}})
		}
	}
}

// What is held at a place of the new text is told by FeedAll of all ahead of it: so told,
// no place ahead of the meet has a check of the old memo that holds the same.
func TestTheMeetIsTheFirstOne(t *testing.T) {
	for seed := range uint32(250) {
		m := madeMemo(mixedText(int(seed%12), seed*7), int64(seed%9)+1)
		at := int64(seed*13) % int64(len(m.Data)+1)
		e := edit{at, min(int64(seed%4), int64(len(m.Data))-at), markPuts()[seed%uint32(len(markPuts()))]}
		text := impl.SpliceBytes(m.Data, e.at, e.n, []byte(e.put))
		if text.Code != impl.OK {
			continue
		}
		var helds []string
		for place := range len(text.Bytes) + 1 {
			helds = append(helds, string(impl.FeedAll(impl.LexState{}, text.Bytes[:place]).State.Held))
		}
		meet := impl.MeetOf(m, e.at, e.n, []byte(e.put)).Value
		for place := e.at + e.size(); place < meet; place++ {
			if metAt(m, e, helds, place) != nil {
				t.Errorf("MeetOf %s: got %d, but there is one at %d", briefEdit(m, e), meet, place)
			}
		}
		if meet < int64(len(text.Bytes)) && metAt(m, e, helds, meet) == nil {
			t.Errorf("MeetOf %s: got %d, but there is none", briefEdit(m, e), meet)
		}
	}
}
