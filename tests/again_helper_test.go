package tests

import (
	"fmt"
	"strings"
	"testing"

	"loop.example/g00606/impl"
)

// edit is what is done to a text: n bytes from at on are cut, and others put there.
type edit struct {
	at  int64
	n   int64
	put string
}

func (e edit) size() int64 {
	return int64(len(e.put))
}

// back is the edit that takes this one back, of the text that there was.
func (e edit) back(text string) edit {
	return edit{e.at, e.size(), text[e.at : e.at+e.n]}
}

func briefEdit(m impl.Memo, e edit) string {
	return fmt.Sprintf("of %.250q by %d, at %d, %d cut, %.250q put", m.Data, m.Step, e.at, e.n, e.put)
}

// splicedOf is what the document asks of SpliceBytes.
func splicedOf(text string, e edit) impl.BytesResult {
	size := int64(len(text))
	// Each is held against the size by itself ahead of their sum, which is small then.
	if e.at < 0 || e.n < 0 || e.at > size || e.n > size || e.at+e.n > size {
		return impl.BytesResult{Code: impl.ErrRange}
	}
	spliced := text[:e.at] + e.put + text[e.at+e.n:]
	if len(spliced) > 240 {
		return impl.BytesResult{Code: impl.ErrLarge}
	}
	return impl.BytesResult{Bytes: []byte(spliced)}
}

// heldsOf is what is held at each place of a text, by the test's own reading of all ahead of it.
func heldsOf(text string) []string {
	helds := []string{""}
	for i := range len(text) {
		helds = append(helds, fedByte(helds[i], text[i]).held)
	}
	return helds
}

// checkAt is the check that stands at a place of a memo, nil if there is none.
func checkAt(m impl.Memo, at int64) *impl.Check {
	for i := range m.Checks {
		if m.Checks[i].At == at {
			return &m.Checks[i]
		}
	}
	return nil
}

// metAt is the check of the old memo that stands at a place of the new text, if that holds there what helds tell; else nil.
func metAt(m impl.Memo, e edit, helds []string, place int64) *impl.Check {
	c := checkAt(m, place+e.n-e.size())
	if c == nil || string(c.Held) != helds[place] {
		return nil
	}
	return c
}

// meetOf is what the document asks of MeetOf, of a memo and an edit without a fault, and the check that is met there, if it is not the end alone.
func meetOf(m impl.Memo, e edit) (int64, *impl.Check) {
	text := string(splicedOf(string(m.Data), e).Bytes)
	helds := heldsOf(text)
	for place := e.at + e.size(); place <= int64(len(text)); place++ {
		if c := metAt(m, e, helds, place); c != nil {
			return place, c
		}
	}
	return int64(len(text)), nil
}

func wantNumber(t *testing.T, what string, got impl.IntResult, want impl.IntResult) {
	t.Helper()
	if got != want {
		t.Errorf("%s: got %+v, want %+v", what, got, want)
	}
}

// wantEditCode holds all three that ask for a memo against a code, with nothing beside it.
func wantEditCode(t *testing.T, m impl.Memo, e edit, code int64) {
	t.Helper()
	what, put := briefEdit(m, e), []byte(e.put)
	wantMemo(t, "EditMemo "+what, impl.EditMemo(m, e.at, e.n, put), impl.MemoResult{Code: code})
	wantNumber(t, "ReadBound "+what, impl.ReadBound(m, e.at, e.n, put), impl.IntResult{Code: code})
	wantNumber(t, "MeetOf "+what, impl.MeetOf(m, e.at, e.n, put), impl.IntResult{Code: code})
}

// wantOneEdit holds an edit of a memo without a fault, with a code or without one,
// against the document, and tells the memo that it leads to.
func wantOneEdit(t *testing.T, m impl.Memo, e edit) impl.Memo {
	t.Helper()
	what, put := briefEdit(m, e), []byte(e.put)
	text := splicedOf(string(m.Data), e)
	wantTold(t, "SpliceBytes "+what, impl.SpliceBytes(m.Data, e.at, e.n, put), text)
	if text.Code != impl.OK {
		wantEditCode(t, m, e, text.Code)
		return impl.Memo{}
	}
	meet, met := meetOf(m, e)
	last := lastCheckOf(m, e.at).Check
	want := memoOf(string(text.Bytes), m.Step)
	want.Read = meet - last.At
	got := impl.EditMemo(m, e.at, e.n, put)
	wantMemo(t, "EditMemo "+what, got, want)
	wantNumber(t, "MeetOf "+what, impl.MeetOf(m, e.at, e.n, put), impl.IntResult{Value: meet})
	bound := impl.ReadBound(m, e.at, e.n, put)
	wantNumber(t, "ReadBound "+what, bound, impl.IntResult{Value: int64(len(text.Bytes)) - last.At})
	if got.Read > bound.Value || got.Read < e.at-last.At+e.size() {
		t.Errorf("EditMemo %s: %d bytes are read, the bound is %d", what, got.Read, bound.Value)
	}
	wantReadAsWhole(t, what, m, got, last, met)
	return got.Memo
}

// wantReadAsWhole asks P14 of an edit by what the program itself tells: what was made is
// right, and what is ahead of the last check, what is read from there on, and what is
// behind the check that is met are together what the new text is read as.
func wantReadAsWhole(t *testing.T, what string, m impl.Memo, got impl.MemoResult, last impl.Check, met *impl.Check) {
	t.Helper()
	if code := impl.MemoFault(got.Memo); code != impl.OK {
		t.Errorf("EditMemo %s: what is made has the fault %d", what, code)
	}
	if !impl.SameMemos(got.Memo, impl.NewMemo(got.Memo.Data, m.Step).Memo) {
		t.Errorf("EditMemo %s: it is not the NewMemo of its text", what)
	}
	meet := last.At + got.Read
	if meet < last.At || meet > int64(len(got.Memo.Data)) {
		t.Errorf("EditMemo %s: it reads from %d to %d", what, last.At, meet)
		return
	}
	again := impl.FeedAll(impl.LexState{Held: last.Held}, got.Memo.Data[last.At:meet])
	tokens, behind := joined(m.Tokens[:last.Count], again.Tokens), string(again.State.Held)
	if met != nil {
		tokens, behind = joined(tokens, m.Tokens[met.Count:]), string(m.Held)
	}
	wantLexed(t, "the tokens of old and new ones "+what, impl.FeedAll(impl.LexState{}, got.Memo.Data), lexed{tokens, behind})
}

// wantEdit asks P14 of an edit, and of the one that takes it back, which leads to the memo that there was.
func wantEdit(t *testing.T, m impl.Memo, e edit) impl.Memo {
	t.Helper()
	made := wantOneEdit(t, m, e)
	if splicedOf(string(m.Data), e).Code != impl.OK {
		return made
	}
	back := wantOneEdit(t, made, e.back(string(m.Data)))
	if shownMemo(back) != shownMemo(m) {
		t.Errorf("%s: taken back it is %s", briefEdit(m, e), briefMemo(back))
	}
	return made
}

// wantEdits is wantEdit of all edits of a text, by each of these steps.
func wantEdits(t *testing.T, text string, steps []int64, edits []edit) {
	t.Helper()
	for _, step := range steps {
		m := madeMemo(text, step)
		for _, e := range edits {
			wantEdit(t, m, e)
		}
	}
}

// allEdits cut at every place as many bytes as there may be cut, and put each of these there.
func allEdits(size int, puts ...string) []edit {
	var edits []edit
	for at := range int64(size) + 1 {
		for n := range int64(size) - at + 1 {
			for _, put := range puts {
				edits = append(edits, edit{at, n, put})
			}
		}
	}
	return edits
}

// someEdits cut few bytes, half and all of what is behind a place, at the ends and at places between, and put each of these there.
func someEdits(size int, puts ...string) []edit {
	var edits []edit
	whole := int64(size)
	for _, at := range []int64{0, 1, whole / 3, whole / 2, whole - 1, whole} {
		for _, n := range []int64{0, 1, 2, (whole - at) / 2, whole - at} {
			if at < 0 || at > whole || n > whole-at {
				continue
			}
			for _, put := range puts {
				edits = append(edits, edit{at, n, put})
			}
		}
	}
	return edits
}

// markPuts are whole marks, pieces of them, bytes that open or shut one, and nothing.
func markPuts() []string {
	return []string{"", "x", "<", ">", "\"", "&", ";", "-", "xy", "<b>", "</", "&lt;", "<!--", "-->", " a=\"", "\">", strings.Repeat("z", 7)}
}
