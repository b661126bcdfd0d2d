package tests

import (
	"cmp"
	"fmt"
	"slices"
	"strings"
	"testing"

	"loop.example/g00606/impl"
)

// memoCall is one set of arguments for all functions of memos.
type memoCall struct {
	memo  impl.Memo
	other impl.Memo
	data  []byte
	step  int64
	at    int64
}

// roomy has memory of its own for each list and each word, and room behind the lists.
func (c memoCall) roomy() memoCall {
	return memoCall{memo: copiedMemo(c.memo), other: copiedMemo(c.other), data: roomyBytes(c.data), step: c.step, at: c.at}
}

// wholeMemo shows a memo with all the room of its lists.
func wholeMemo(m impl.Memo) string {
	var text strings.Builder
	fmt.Fprintf(&text, "%q %d %s %q", m.Data[:cap(m.Data)], m.Step, wholeTokens(m.Tokens), m.Held[:cap(m.Held)])
	for _, c := range m.Checks[:cap(m.Checks)] {
		fmt.Fprintf(&text, " %d %d %q", c.At, c.Count, c.Held[:cap(c.Held)])
	}
	return text.String()
}

func (c memoCall) whole() string {
	return wholeMemo(c.memo) + wholeMemo(c.other) + fmt.Sprintf("%q", c.data[:cap(c.data)])
}

func scribbleMemo(m impl.Memo) {
	scribbleBytes(m.Data)
	scribbleBytes(m.Held)
	scribbleTokens(m.Tokens[:cap(m.Tokens)])
	checks := m.Checks[:cap(m.Checks)]
	for i := range checks {
		scribbleBytes(checks[i].Held)
		checks[i] = impl.Check{At: checks[i].At + 7, Count: checks[i].Count + 7}
	}
}

func (c memoCall) scribble() {
	scribbleMemo(c.memo)
	scribbleMemo(c.other)
	scribbleBytes(c.data)
}

func (c memoCall) brief() string {
	return fmt.Sprintf("%s, and %.80q by %d, at %d", briefMemo(c.memo), c.data, c.step, c.at)
}

// spansOfTokens are where tokens and their lists lie.
func spansOfTokens(tokens []impl.Token) []span {
	return spansOf(impl.LexResult{Tokens: tokens})
}

// namesOfTokens are where the words of tokens lie.
func namesOfTokens(tokens []impl.Token) []span {
	var spans []span
	for _, token := range tokens {
		spans = append(spans, wordSpan(token.Name))
		for _, a := range token.Attrs {
			spans = append(spans, wordSpan(a.Name))
		}
	}
	return haveRoom(spans)
}

func spansOfMemo(m impl.Memo) []span {
	spans := append(spansOfTokens(m.Tokens), spanOf(m.Data), spanOf(m.Held), spanOf(m.Checks))
	for _, c := range m.Checks {
		spans = append(spans, spanOf(c.Held))
	}
	return haveRoom(spans)
}

// spans are where all lists and words of the arguments lie.
func (c memoCall) spans() []span {
	spans := append(spansOfMemo(c.memo), spansOfMemo(c.other)...)
	spans = append(spans, namesOfTokens(c.memo.Tokens)...)
	spans = append(spans, namesOfTokens(c.other.Tokens)...)
	return append(spans, haveRoom([]span{spanOf(c.data)})...)
}

// memoAnswers are all that the calls answer.
type memoAnswers struct {
	made   impl.MemoResult
	last   impl.CheckResult
	tokens impl.LexResult
	fault  int64
	same   bool
}

func (c memoCall) answers() memoAnswers {
	return memoAnswers{impl.NewMemo(c.data, c.step), impl.LastCheck(c.memo, c.at), impl.TokensOf(c.memo), impl.MemoFault(c.memo), impl.SameMemos(c.memo, c.other)}
}

func (a memoAnswers) shown() string {
	return fmt.Sprintf("%d %d %s, %d %s, %s, %d %v", a.made.Code, a.made.Read, shownMemo(a.made.Memo), a.last.Code, shownCheck(a.last.Check), shownResult(a.tokens), a.fault, a.same)
}

func (a memoAnswers) scribble() {
	scribbleMemo(a.made.Memo)
	scribbleBytes(a.last.Check.Held)
	scribbleResult(a.tokens)
}

// lists are where the lists of each answer lie.
func (a memoAnswers) lists() [][]span {
	return [][]span{spansOfMemo(a.made.Memo), haveRoom([]span{spanOf(a.last.Check.Held)}), spansOf(a.tokens)}
}

func (a memoAnswers) names() []span {
	return append(namesOfTokens(a.made.Memo.Tokens), namesOfTokens(a.tokens.Tokens)...)
}

// memoCalls are sets of arguments of every kind, memos with faults and without them.
func memoCalls() []memoCall {
	memos := append(memosOfAllKinds(), impl.Memo{}, impl.Memo{Step: 1}, madeMemo(strings.Repeat("x", 240), 1), madeMemo(filledUp(240, "<!--", "x", ""), 20), madeMemo(strings.Repeat("<a b=\"c\">", 26), 7))
	for _, m := range memosOfAllKinds() {
		for i, turned := range turnsOf(m) {
			if i%11 == 0 {
				memos = append(memos, turned.memo)
			}
		}
	}
	for seed := range uint32(60) {
		memos = append(memos, madeMemo(mixedText(int(seed%20), seed*13), int64(seed%60)+1))
	}
	var calls []memoCall
	for i, m := range memos {
		size := int64(len(m.Data))
		for j, at := range []int64{-1, 0, size / 2, size, size + 1} {
			other := memos[(i*7+j)%len(memos)]
			if j%2 == 0 {
				other = m
			}
			calls = append(calls, memoCall{memo: m, other: other, data: m.Data, step: m.Step, at: at})
		}
	}
	return append(calls, memoCall{data: make([]byte, 241), step: 1}, memoCall{data: []byte("<b"), step: 61}, memoCall{data: []byte("<b"), step: 1})
}

// P1: no call changes an argument, the lists of a memo and those of its Tokens and Checks among them, nor the room behind them.
func TestMemosChangeNoArgument(t *testing.T) {
	for _, c := range memoCalls() {
		given := c.roomy()
		before := given.whole()
		given.answers()
		impl.SameMemos(given.other, given.memo)
		if given.whole() != before {
			t.Errorf("%s: an argument was changed", c.brief())
		}
	}
}

// P1: what is written to an argument is not seen in an answer, and what is written to an answer in nothing else.
func TestMemosShareNoMemory(t *testing.T) {
	for _, c := range memoCalls() {
		given := c.roomy()
		before := given.whole()
		want := given.answers()
		shown := want.shown()
		given.answers().scribble()
		if given.whole() != before {
			t.Errorf("%s: what is written to an answer is seen in an argument", c.brief())
		}
		if want.shown() != shown || given.answers().shown() != shown {
			t.Errorf("%s: what is written to an answer is seen in another one", c.brief())
		}
		given.scribble()
		if want.shown() != shown {
			t.Errorf("%s: what is written to an argument is seen in an answer", c.brief())
		}
		want.scribble()
		if c.roomy().answers().shown() != shown {
			t.Errorf("%s: what is written is seen in what is answered then", c.brief())
		}
	}
}

// lieApart tells whether no two of these share a byte.
func lieApart(spans []span) bool {
	sorted := slices.SortedFunc(slices.Values(spans), func(a span, b span) int { return cmp.Compare(a.from, b.from) })
	for i := range sorted {
		if i > 0 && sorted[i-1].to > sorted[i].from {
			return false
		}
	}
	return true
}

// P1: no two lists of one answer lie in the same memory, the Helds of the checks, Data and the memo's Held among them, nor one in an argument.
func TestListsOfAMemoLieApart(t *testing.T) {
	for _, c := range memoCalls() {
		given := c.roomy()
		answers := given.answers()
		for _, lists := range answers.lists() {
			if !lieApart(lists) {
				t.Errorf("%s: two lists of one answer share memory", c.brief())
			}
			for _, a := range append(lists, answers.names()...) {
				if slices.ContainsFunc(given.spans(), func(b span) bool { return overlap(a, b) }) {
					t.Errorf("%s: an answer shares memory with an argument", c.brief())
				}
			}
		}
	}
}

// P1: what is put behind a list of an answer, into its room, is seen in no other one.
func TestMemosGrowApart(t *testing.T) {
	m := impl.NewMemo([]byte("a<b c=\"d\">e<i"), 1).Memo
	want := shownMemo(m)
	grown := m
	grown.Data, grown.Held = append(m.Data, "more than there was"...), append(m.Held, "more"...)
	grown.Tokens, grown.Checks = append(m.Tokens, note(), note()), append(m.Checks, check(1, 2, "x"))
	for _, c := range m.Checks {
		_ = append(c.Held, "zz"...)
	}
	if shownMemo(m) != want {
		t.Errorf("NewMemo: got %s, want %s", shownMemo(m), want)
	}
}

// nothings are the ways to tell that there is nothing.
func nothings[T any]() [][]T {
	return [][]T{nil, {}, make([]T, 0, 5)}
}

// P1: nil and an empty list are the same value, wherever one stands in a memo.
func TestNothingInAMemoIsNothing(t *testing.T) {
	plain, tagged := madeMemo("", 4), madeMemo("<b><a x=\"\">", 5)
	for i := range nothings[byte]() {
		empty := impl.Memo{Data: nothings[byte]()[i], Step: 4, Tokens: nothings[impl.Token]()[i], Held: nothings[byte]()[i], Checks: []impl.Check{{Held: nothings[byte]()[i]}}}
		wantMemoFault(t, "nothing", empty, impl.OK)
		wantSameMemos(t, "nothing", empty, plain, true)
		wantLexed(t, "TokensOf", impl.TokensOf(empty), lexed{})
		open := copiedMemo(tagged)
		open.Held, open.Checks[0].Held = nothings[byte]()[i], nothings[byte]()[i]
		open.Tokens[0].Attrs, open.Tokens[1].Attrs[0].Value = nothings[impl.Attr]()[i], nothings[byte]()[i]
		wantMemoFault(t, "nothing in it", open, impl.OK)
		wantSameMemos(t, "nothing in it", open, tagged, true)
		none := impl.Memo{Data: nothings[byte]()[i], Tokens: nothings[impl.Token]()[i], Held: nothings[byte]()[i], Checks: nothings[impl.Check]()[i]}
		wantMemoFault(t, "nothing at all", none, impl.ErrRange)
		wantSameMemos(t, "nothing at all", none, impl.Memo{}, true)
		wantSameMemos(t, "nothing but a check", none, impl.Memo{Checks: []impl.Check{{}}}, false)
		wantSameMemos(t, "nothing but a token", none, impl.Memo{Tokens: list(impl.Token{})}, false)
		wantSameMemos(t, "nothing but a byte", none, impl.Memo{Data: []byte{0}}, false)
		wantSameMemos(t, "nothing but a byte held", none, impl.Memo{Held: []byte{0}}, false)
	}
}

// P1: what is answered hangs on the arguments alone, not on what was called ahead of it.
func TestMemosKeepNothing(t *testing.T) {
	calls := memoCalls()
	var first []string
	for _, c := range calls {
		first = append(first, c.answers().shown())
	}
	for round := range 3 {
		for i := range calls {
			at := (i*7 + round*31) % len(calls)
			if calls[at].answers().shown() != first[at] {
				t.Errorf("%s: another answer than at first", calls[at].brief())
			}
		}
	}
}
