package tests

import (
	"fmt"
	"slices"
	"strings"
	"testing"

	"loop.example/g00606/impl"
)

func check(at int64, count int64, held string) impl.Check {
	return impl.Check{At: at, Count: count, Held: []byte(held)}
}

func shownCheck(c impl.Check) string {
	return fmt.Sprintf("(%d %d %q)", c.At, c.Count, c.Held)
}

// shownReading tells what a memo keeps of its text, nil and an empty list alike.
func shownReading(m impl.Memo) string {
	var text strings.Builder
	fmt.Fprintf(&text, "tokens%s, held %q, checks", shownAll(m.Tokens), m.Held)
	for _, c := range m.Checks {
		text.WriteString(" " + shownCheck(c))
	}
	return text.String()
}

// shownMemo tells all of a memo.
func shownMemo(m impl.Memo) string {
	return fmt.Sprintf("%q by %d, %s", m.Data, m.Step, shownReading(m))
}

// briefMemo is shownMemo, but of one that may be very large.
func briefMemo(m impl.Memo) string {
	return fmt.Sprintf("%.400s", shownMemo(m))
}

// memoOf is what the document asks of NewMemo, worked out by the test's own reading, byte by byte.
func memoOf(text string, step int64) impl.MemoResult {
	if len(text) > 240 {
		return impl.MemoResult{Code: impl.ErrLarge}
	}
	if step < 1 || step > 60 {
		return impl.MemoResult{Code: impl.ErrRange}
	}
	var all lexed
	var checks []impl.Check
	for at := int64(0); at <= int64(len(text)); at++ {
		if at > 0 {
			next := fedByte(all.held, text[at-1])
			all = lexed{append(all.tokens, next.tokens...), next.held}
		}
		if at%step == 0 {
			checks = append(checks, check(at, int64(len(all.tokens)), all.held))
		}
	}
	memo := impl.Memo{Data: []byte(text), Step: step, Tokens: all.tokens, Held: []byte(all.held), Checks: checks}
	return impl.MemoResult{Read: int64(len(text)), Memo: memo}
}

// memoFaultOf is what the document asks of MemoFault.
func memoFaultOf(m impl.Memo) int64 {
	want := memoOf(string(m.Data), m.Step)
	if want.Code == impl.OK && shownReading(want.Memo) != shownReading(m) {
		return impl.ErrForm
	}
	return want.Code
}

// lastCheckOf is what the document asks of LastCheck, of a memo without a fault.
func lastCheckOf(m impl.Memo, at int64) impl.CheckResult {
	if at < 0 || at > int64(len(m.Data)) {
		return impl.CheckResult{Code: impl.ErrRange}
	}
	var last impl.Check
	for _, c := range m.Checks {
		if c.At <= at {
			last = c
		}
	}
	return impl.CheckResult{Check: last}
}

func wantMemo(t *testing.T, what string, got impl.MemoResult, want impl.MemoResult) {
	t.Helper()
	if got.Code != want.Code || got.Read != want.Read || shownMemo(got.Memo) != shownMemo(want.Memo) {
		t.Errorf("%s: got code %d, read %d, %s, want code %d, read %d, %s", what, got.Code, got.Read, briefMemo(got.Memo), want.Code, want.Read, briefMemo(want.Memo))
	}
}

func wantCheck(t *testing.T, what string, got impl.CheckResult, want impl.CheckResult) {
	t.Helper()
	if got.Code != want.Code || shownCheck(got.Check) != shownCheck(want.Check) {
		t.Errorf("%s: got code %d, %s, want code %d, %s", what, got.Code, shownCheck(got.Check), want.Code, shownCheck(want.Check))
	}
}

func briefNew(text string, step int64) string {
	return fmt.Sprintf("NewMemo of %.250q by %d", text, step)
}

// wantNew holds NewMemo of a text and a step, with a code or without one, against the document; what is made is right.
func wantNew(t *testing.T, text string, step int64) impl.Memo {
	t.Helper()
	got := impl.NewMemo([]byte(text), step)
	wantMemo(t, briefNew(text, step), got, memoOf(text, step))
	if got.Code == impl.OK {
		wantRightMemo(t, briefNew(text, step), got.Memo)
		wantGoOn(t, briefNew(text, step), got.Memo)
	}
	return got.Memo
}

// wantRightMemo asks of a memo without a fault what P13 says of its tokens and of where its checks are.
func wantRightMemo(t *testing.T, what string, m impl.Memo) {
	t.Helper()
	if code := impl.MemoFault(m); code != impl.OK || memoFaultOf(m) != impl.OK {
		t.Errorf("%s: the fault is %d, the test's own %d", what, code, memoFaultOf(m))
	}
	if !impl.SameMemos(m, m) {
		t.Errorf("%s: it is not the same as itself", what)
	}
	wantLexed(t, what+", FeedAll", impl.FeedAll(impl.LexState{}, m.Data), lexed{m.Tokens, string(m.Held)})
	got, want := impl.TokensOf(m), impl.LexText(m.Data)
	wantLexed(t, what+", TokensOf", got, lexed{tokens: want.Tokens})
	wantLexed(t, what+", TokensOf", got, lexed{tokens: joined(m.Tokens, asBytes(string(m.Held)))})
	var at, places []int64
	for _, c := range m.Checks {
		at = append(at, c.At)
	}
	for place := range int64(len(m.Data)) + 1 {
		if place%m.Step == 0 {
			places = append(places, place)
		}
	}
	if !slices.Equal(at, places) {
		t.Errorf("%s: checks stand at %v, want %v", what, at, places)
	}
}

// wantGoOn asks P13 of each check of a memo: that what is behind it leads to the memo's
// end, and what is between it and the next one to that.
func wantGoOn(t *testing.T, what string, m impl.Memo) {
	t.Helper()
	for i, c := range m.Checks {
		if c.At < 0 || c.At > int64(len(m.Data)) || c.Count < 0 || c.Count > int64(len(m.Tokens)) {
			t.Fatalf("%s: the check %s is out of bounds", what, shownCheck(c))
		}
		behind := impl.FeedAll(impl.LexState{Held: c.Held}, m.Data[c.At:])
		wantLexed(t, fmt.Sprintf("%s, on from %s", what, shownCheck(c)), behind, lexed{m.Tokens[c.Count:], string(m.Held)})
		ahead := impl.FeedAll(impl.LexState{}, m.Data[:c.At])
		wantLexed(t, fmt.Sprintf("%s, up to %s", what, shownCheck(c)), ahead, lexed{m.Tokens[:c.Count], string(c.Held)})
		if i == 0 {
			continue
		}
		last := m.Checks[i-1]
		between := impl.FeedAll(impl.LexState{Held: last.Held}, m.Data[last.At:c.At])
		wantLexed(t, fmt.Sprintf("%s, from %s to %s", what, shownCheck(last), shownCheck(c)), between, lexed{m.Tokens[last.Count:c.Count], string(c.Held)})
	}
}

// wantLast asks P13 of LastCheck at each of these places of a memo without a fault.
func wantLast(t *testing.T, m impl.Memo, places ...int64) {
	t.Helper()
	for _, at := range places {
		what := fmt.Sprintf("LastCheck of %s at %d", briefMemo(m), at)
		got := impl.LastCheck(m, at)
		wantCheck(t, what, got, lastCheckOf(m, at))
		if got.Code != impl.OK {
			continue
		}
		// It is held against at less Step: at may be so small that the step ahead of it is below 0.
		if got.Check.At > at || got.Check.At <= at-m.Step {
			t.Errorf("%s: it stands at %d", what, got.Check.At)
		}
		if !slices.ContainsFunc(m.Checks, func(c impl.Check) bool { return shownCheck(c) == shownCheck(got.Check) }) {
			t.Errorf("%s: %s is no check of it", what, shownCheck(got.Check))
		}
	}
}

// allPlaces are those of a text of so many bytes, with the ones next to them that are none.
func allPlaces(size int) []int64 {
	var places []int64
	for at := range int64(size) + 3 {
		places = append(places, at-1)
	}
	return places
}

// wantMemoFault holds a memo against a code; the other functions that ask for it tell it, with nothing beside it.
func wantMemoFault(t *testing.T, what string, m impl.Memo, code int64) {
	t.Helper()
	what = fmt.Sprintf("%s, %s", what, briefMemo(m))
	if got := impl.MemoFault(m); got != code {
		t.Errorf("MemoFault of %s: got %d, want %d", what, got, code)
	}
	if memoFaultOf(m) != code {
		t.Errorf("%s: the test's own fault is %d, not %d", what, memoFaultOf(m), code)
	}
	if code == impl.OK {
		wantLast(t, m, -1, 0, int64(len(m.Data)), int64(len(m.Data))+1)
		return
	}
	size := int64(len(m.Data))
	for _, at := range append(oddNumbers(), 0, 1, size-1, size, size+1) {
		wantCheck(t, fmt.Sprintf("LastCheck at %d of %s", at, what), impl.LastCheck(m, at), impl.CheckResult{Code: code})
	}
	wantNoLex(t, "TokensOf of "+what, impl.TokensOf(m), code)
}

// wantSameMemos holds SameMemos of two, both ways, against an answer.
func wantSameMemos(t *testing.T, what string, a impl.Memo, b impl.Memo, want bool) {
	t.Helper()
	if impl.SameMemos(a, b) != want || impl.SameMemos(b, a) != want {
		t.Errorf("SameMemos of %s and %s, %s: want %v", briefMemo(a), briefMemo(b), what, want)
	}
}

// madeMemo is a memo without a fault that the test has made, not the program.
func madeMemo(text string, step int64) impl.Memo {
	return memoOf(text, step).Memo
}

// copiedMemo is a deep copy, words among it, whose lists have more room than they need,
// so that a program that appends to them in place is found out.
func copiedMemo(m impl.Memo) impl.Memo {
	tokens := roomyTokens(m.Tokens)
	for i := range tokens {
		tokens[i].Name = strings.Clone(tokens[i].Name)
		for j := range tokens[i].Attrs {
			tokens[i].Attrs[j].Name = strings.Clone(tokens[i].Attrs[j].Name)
		}
	}
	checks := make([]impl.Check, 0, len(m.Checks)+4)
	for _, c := range m.Checks {
		checks = append(checks, impl.Check{At: c.At, Count: c.Count, Held: roomyBytes(c.Held)})
	}
	return impl.Memo{Data: roomyBytes(m.Data), Step: m.Step, Tokens: tokens, Held: roomyBytes(m.Held), Checks: checks}
}
