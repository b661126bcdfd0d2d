package tests

import (
	"bytes"
	"fmt"
	"slices"
	"strings"
	"testing"

	"loop.example/g00606/impl"
)

// editCall is one set of arguments for all functions that read again.
type editCall struct {
	memo impl.Memo
	data []byte
	at   int64
	n    int64
	put  []byte
}

// roomy has memory of its own for each list and each word, and room behind the lists.
func (c editCall) roomy() editCall {
	return editCall{memo: copiedMemo(c.memo), data: roomyBytes(c.data), at: c.at, n: c.n, put: roomyBytes(c.put)}
}

func (c editCall) whole() string {
	return wholeMemo(c.memo) + fmt.Sprintf("%q %q", c.data[:cap(c.data)], c.put[:cap(c.put)])
}

func (c editCall) scribble() {
	scribbleMemo(c.memo)
	scribbleBytes(c.data)
	scribbleBytes(c.put)
}

func (c editCall) spans() []span {
	spans := append(spansOfMemo(c.memo), namesOfTokens(c.memo.Tokens)...)
	return append(spans, haveRoom([]span{spanOf(c.data), spanOf(c.put)})...)
}

func (c editCall) brief() string {
	return briefEdit(c.memo, edit{c.at, c.n, string(c.put)})
}

// editAnswers are all that the calls answer.
type editAnswers struct {
	spliced impl.BytesResult
	edited  impl.MemoResult
	bound   impl.IntResult
	meet    impl.IntResult
}

func (c editCall) answers() editAnswers {
	return editAnswers{impl.SpliceBytes(c.data, c.at, c.n, c.put), impl.EditMemo(c.memo, c.at, c.n, c.put), impl.ReadBound(c.memo, c.at, c.n, c.put), impl.MeetOf(c.memo, c.at, c.n, c.put)}
}

func (a editAnswers) shown() string {
	return fmt.Sprintf("%d %q, %d %d %s, %+v, %+v", a.spliced.Code, a.spliced.Bytes, a.edited.Code, a.edited.Read, shownMemo(a.edited.Memo), a.bound, a.meet)
}

func (a editAnswers) scribble() {
	scribbleBytes(a.spliced.Bytes)
	scribbleMemo(a.edited.Memo)
}

// lists are where the lists of each answer lie.
func (a editAnswers) lists() [][]span {
	return [][]span{haveRoom([]span{spanOf(a.spliced.Bytes)}), spansOfMemo(a.edited.Memo)}
}

// editCalls are sets of arguments of every kind, memos with faults and without them, edits with codes and without them.
func editCalls() []editCall {
	memos := append(memosOfAllKinds(), impl.Memo{}, impl.Memo{Step: 1}, madeMemo(strings.Repeat("x", 240), 1), madeMemo(filledUp(240, "<!--", "x", ""), 20), madeMemo(strings.Repeat("<a b=\"c\">", 26), 7))
	for _, m := range memosOfAllKinds() {
		for i, turned := range turnsOf(m) {
			if i%37 == 0 {
				memos = append(memos, turned.memo)
			}
		}
	}
	for seed := range uint32(40) {
		memos = append(memos, madeMemo(mixedText(int(seed%20), seed*13), int64(seed%60)+1))
	}
	var calls []editCall
	for i, m := range memos {
		size := int64(len(m.Data))
		put := []byte(markPuts()[i%len(markPuts())])
		for _, e := range [][2]int64{{0, 0}, {size / 2, 0}, {size / 2, size - size/2}, {size, 0}, {0, size}, {-1, 0}, {size, 1}} {
			calls = append(calls, editCall{m, m.Data, e[0], e[1], put}, editCall{m, m.Data, e[0], e[1], nil})
		}
		calls = append(calls, editCall{m, m.Data, 0, 0, make([]byte, 241)})
	}
	return calls
}

// P1: no call changes an argument, the lists of the memo and put among them, nor the room behind them.
func TestEditsChangeNoArgument(t *testing.T) {
	for _, c := range editCalls() {
		given := c.roomy()
		before := given.whole()
		given.answers()
		if given.whole() != before {
			t.Errorf("%s: an argument was changed", c.brief())
		}
	}
}

// P1: what is written to an argument is not seen in an answer, and what is written to an answer in nothing else.
func TestEditsShareNoMemory(t *testing.T) {
	for _, c := range editCalls() {
		given := c.roomy()
		before := given.whole()
		want := given.answers()
		shown := want.shown()
		given.answers().scribble()
		if given.whole() != before {
			t.Errorf("%s: what is written to an answer is seen in an argument", c.brief())
		}
		if want.shown() != shown || given.answers().shown() != shown {
			t.Errorf("%s: what is written to an answer is seen in another one", c.brief())
		}
		given.scribble()
		if want.shown() != shown {
			t.Errorf("%s: what is written to an argument is seen in an answer", c.brief())
		}
		want.scribble()
		if c.roomy().answers().shown() != shown {
			t.Errorf("%s: what is written is seen in what is answered then", c.brief())
		}
	}
}

// P1: no two lists of one answer lie in the same memory, the Helds of the checks, Data and the memo's Held among them, nor one in an argument.
func TestListsOfAnEditLieApart(t *testing.T) {
	for _, c := range editCalls() {
		given := c.roomy()
		answers := given.answers()
		names := namesOfTokens(answers.edited.Memo.Tokens)
		for _, lists := range answers.lists() {
			if !lieApart(lists) {
				t.Errorf("%s: two lists of one answer share memory", c.brief())
			}
			for _, a := range append(lists, names...) {
				if slices.ContainsFunc(given.spans(), func(b span) bool { return overlap(a, b) }) {
					t.Errorf("%s: an answer shares memory with an argument", c.brief())
				}
			}
		}
	}
}

// P1: arguments that lie in the same memory are asked like others: put a piece of Data, of a check's Held, or of what is held.
func TestArgumentsOfAnEditThatShareMemory(t *testing.T) {
	for _, given := range memosOfAllKinds() {
		m := copiedMemo(given)
		puts := [][]byte{m.Data, m.Data[len(m.Data)/2:], m.Data[:len(m.Data)/2], m.Held}
		for _, c := range m.Checks {
			puts = append(puts, c.Held)
		}
		for _, put := range puts {
			for at := range int64(len(m.Data)) + 1 {
				apart := editCall{m, m.Data, at, (int64(len(m.Data)) - at) / 2, put}.roomy()
				shared := editCall{m, m.Data, apart.at, apart.n, put}
				before := shared.whole()
				if shared.answers().shown() != apart.answers().shown() || shared.whole() != before {
					t.Errorf("%s: another answer, where arguments share memory", shared.brief())
				}
			}
		}
	}
}

// P1: what is put behind a list of an answer, into its room, is seen in no other one.
func TestEditsGrowApart(t *testing.T) {
	given := madeMemo("a<b c=\"d\">e<i", 1)
	m := impl.EditMemo(given, 1, 0, []byte("xy")).Memo
	want := shownMemo(m)
	_, _ = append(m.Data, "more than there was"...), append(m.Held, "more"...)
	_, _ = append(m.Tokens, note(), note()), append(m.Checks, check(1, 2, "x"))
	for _, c := range m.Checks {
		_ = append(c.Held, "zz"...)
	}
	if shownMemo(m) != want {
		t.Errorf("EditMemo: got %s, want %s", shownMemo(m), want)
	}
}

// What is cut is not left in the room behind a text that is spliced.
func TestWhatIsLeftIsCleared(t *testing.T) {
	data := bytes.Repeat([]byte("secret"), 40)
	for _, e := range allEdits(12, "", "x") {
		got := impl.SpliceBytes(data, e.at, 240-12+e.n, []byte(e.put)).Bytes
		if room := got[len(got):cap(got)]; len(bytes.Trim(room, "\x00")) > 0 {
			t.Errorf("at %d, %q put: %q is left behind %q", e.at, e.put, room, got)
		}
	}
}

// P1: nil and an empty list are the same value, as data and as put.
func TestNothingInAnEditIsNothing(t *testing.T) {
	m := madeMemo("ab<b>c", 2)
	for _, nothing := range nothings[byte]() {
		for _, e := range allEdits(6, "") {
			wantMemo(t, "EditMemo", impl.EditMemo(m, e.at, e.n, nothing), impl.EditMemo(m, e.at, e.n, nil))
			wantTold(t, "SpliceBytes", impl.SpliceBytes(m.Data, e.at, e.n, nothing), splicedOf(string(m.Data), e))
		}
		wantTold(t, "SpliceBytes of nothing", impl.SpliceBytes(nothing, 0, 0, []byte("x")), impl.BytesResult{Bytes: []byte("x")})
		wantTold(t, "SpliceBytes of nothing", impl.SpliceBytes(nothing, 0, 1, []byte("x")), impl.BytesResult{Code: impl.ErrRange})
		wantTold(t, "SpliceBytes to nothing", impl.SpliceBytes([]byte("x"), 0, 1, nothing), impl.BytesResult{})
	}
}

// P1: what is answered hangs on the arguments alone, not on what was called ahead of it.
func TestEditsKeepNothing(t *testing.T) {
	calls := editCalls()
	var first []string
	for _, c := range calls {
		first = append(first, c.answers().shown())
	}
	for round := range 2 {
		for i := range calls {
			at := (i*7 + round*31) % len(calls)
			if calls[at].answers().shown() != first[at] {
				t.Errorf("%s: another answer than at first", calls[at].brief())
			}
		}
	}
}
