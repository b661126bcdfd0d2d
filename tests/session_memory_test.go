package tests

import (
	"fmt"
	"slices"
	"testing"

	"loop.example/g00606/impl"
)

// roomySession has memory of its own for each list and each word, and room behind the lists.
func roomySession(s impl.Session) impl.Session {
	return impl.Session{Policy: roomyPolicy(s.Policy), Table: roomy(s.Table), Memo: copiedMemo(s.Memo), Out: roomyBytes(s.Out), Status: s.Status}
}

// wholeSession shows a session with all the room of its lists.
func wholeSession(s impl.Session) string {
	table := whole(s.Table)
	return wholePolicy(s.Policy) + fmt.Sprintf("%q %q %v", table.Base, table.More, table.Pieces) + wholeMemo(s.Memo) + fmt.Sprintf("%q %d", s.Out[:cap(s.Out)], s.Status)
}

func scribbleSession(s impl.Session) {
	scribblePolicy(s.Policy)
	scribble(s.Table)
	scribbleMemo(s.Memo)
	scribbleBytes(s.Out)
}

// spansOfPolicy are where the lists of a policy lie, namesOfPolicy where its words do.
func spansOfPolicy(p impl.Policy) []span {
	return haveRoom([]span{spanOf(p.Tags), spanOf(p.Attrs), spanOf(p.Schemes)})
}

func namesOfPolicy(p impl.Policy) []span {
	var spans []span
	for _, word := range slices.Concat(p.Tags, p.Attrs, p.Schemes) {
		spans = append(spans, wordSpan(word))
	}
	return haveRoom(spans)
}

func spansOfSession(s impl.Session) []span {
	spans := append(spansOfPolicy(s.Policy), spansOfMemo(s.Memo)...)
	return append(spans, haveRoom([]span{spanOf(s.Table.Base), spanOf(s.Table.More), spanOf(s.Table.Pieces), spanOf(s.Out)})...)
}

func namesOfSession(s impl.Session) []span {
	return append(namesOfPolicy(s.Policy), namesOfTokens(s.Memo.Tokens)...)
}

func roomyChange(c impl.Change) impl.Change {
	return impl.Change{Kind: c.Kind, At: c.At, N: c.N, Put: roomyBytes(c.Put), Policy: roomyPolicy(c.Policy)}
}

// sessionCall is one set of arguments for all functions of sessions.
type sessionCall struct {
	session impl.Session
	list    []impl.Change
	lists   [][]impl.Patch
	step    int64
}

// roomy has memory of its own for each list and each word, and room behind the lists.
func (c sessionCall) roomy() sessionCall {
	given := sessionCall{session: roomySession(c.session), list: make([]impl.Change, 0, len(c.list)+4), lists: make([][]impl.Patch, 0, len(c.lists)+4), step: c.step}
	for _, change := range c.list {
		given.list = append(given.list, roomyChange(change))
	}
	for _, list := range c.lists {
		given.lists = append(given.lists, roomyPatches(list))
	}
	return given
}

func (c sessionCall) whole() string {
	text := wholeSession(c.session)
	for _, change := range c.list[:cap(c.list)] {
		text += fmt.Sprintf("[%d %d %d %q %s]", change.Kind, change.At, change.N, change.Put[:cap(change.Put)], wholePolicy(change.Policy))
	}
	for _, list := range c.lists[:cap(c.lists)] {
		text += "(" + wholePatches(list) + ")"
	}
	return text
}

func (c sessionCall) scribble() {
	scribbleSession(c.session)
	list := c.list[:cap(c.list)]
	for i := range list {
		scribbleBytes(list[i].Put)
		scribblePolicy(list[i].Policy)
		list[i] = impl.Change{Kind: list[i].Kind + 1, At: 7}
	}
	lists := c.lists[:cap(c.lists)]
	for i := range lists {
		scribblePatches(lists[i])
		lists[i] = nil
	}
}

// spans are where all lists and words of the arguments lie.
func (c sessionCall) spans() []span {
	spans := append(spansOfSession(c.session), namesOfSession(c.session)...)
	for _, change := range c.list {
		spans = slices.Concat(spans, spansOfPolicy(change.Policy), namesOfPolicy(change.Policy), []span{spanOf(change.Put)})
	}
	for _, list := range c.lists {
		spans = append(spans, spansOfPatches(list)...)
	}
	return haveRoom(append(spans, spanOf(c.list), spanOf(c.lists)))
}

func (c sessionCall) brief() string {
	return fmt.Sprintf("%s by %s, %.200s", briefSession(c.session), briefChanges(c.list), shownLists(c.lists))
}

// sessionAnswers are all that the calls answer.
type sessionAnswers struct {
	opened  impl.SessionResult
	done    []impl.SessionResult
	run     impl.ChangesResult
	preview impl.BytesResult
	told    string
}

func (c sessionCall) answers() sessionAnswers {
	s := c.session
	a := sessionAnswers{opened: impl.OpenSession(s.Policy, s.Memo.Data, c.step), run: impl.RunChanges(s, c.list), preview: impl.PreviewOf(s.Out, c.lists)}
	a.told = fmt.Sprint(impl.SessionFault(s), impl.SameSessions(s, s), impl.SameSessions(s, impl.Session{Policy: s.Policy, Table: s.Table, Memo: s.Memo}))
	for _, change := range c.list {
		a.done = append(a.done, impl.DoChange(s, change))
		a.told += fmt.Sprint(" ", impl.ChangeFault(change))
	}
	return a
}

func (a sessionAnswers) shown() string {
	text := fmt.Sprintf("%s, %s, %d %q, %s", shownDone(a.opened), shownRun(a.run), a.preview.Code, a.preview.Bytes, a.told)
	for _, done := range a.done {
		text += ", " + shownDone(done)
	}
	return text
}

func (a sessionAnswers) scribble() {
	scribbleSession(a.opened.Session)
	scribbleSession(a.run.Session)
	scribbleBytes(a.preview.Bytes)
	for _, done := range a.done {
		scribbleSession(done.Session)
		scribblePatches(done.Patches)
	}
	for _, list := range a.run.Patches {
		scribblePatches(list)
	}
	codes := a.run.Codes[:cap(a.run.Codes)]
	for i := range codes {
		codes[i] += 7
	}
}

// lists are where the lists of each answer lie.
func (a sessionAnswers) lists() [][]span {
	run := append(spansOfSession(a.run.Session), haveRoom([]span{spanOf(a.run.Codes), spanOf(a.run.Patches)})...)
	for _, list := range a.run.Patches {
		run = append(run, spansOfPatches(list)...)
	}
	all := [][]span{run, spansOfSession(a.opened.Session), haveRoom([]span{spanOf(a.preview.Bytes)})}
	for _, done := range a.done {
		all = append(all, append(spansOfSession(done.Session), spansOfPatches(done.Patches)...))
	}
	return all
}

func (a sessionAnswers) names() []span {
	names := append(namesOfSession(a.opened.Session), namesOfSession(a.run.Session)...)
	for _, done := range a.done {
		names = append(names, namesOfSession(done.Session)...)
	}
	return names
}

// sessionCalls are sets of arguments of every kind, sessions with faults and without them, changes with codes and without them.
func sessionCalls() []sessionCall {
	sessions := append(sessionsOfAllKinds(), impl.Session{}, crowded(40))
	for _, s := range sessionsToTurn() {
		for i, turned := range sessionTurns(s) {
			if i%29 == 0 {
				sessions = append(sessions, turned.session)
			}
		}
	}
	var calls []sessionCall
	for i, s := range sessions {
		size := int64(len(s.Memo.Data))
		kinds := changes(inserting(size/2, "<b>y"), deleting(0, size/3), replacing(0, min(size, 2), "&lt;\""), obeying(policyOf("a b", "href title", "http")), compacting())
		lists := patchLists(int64(len(s.Out)))
		calls = append(calls,
			sessionCall{session: s, list: kinds, lists: lists[:3], step: s.Memo.Step},
			sessionCall{session: s, list: changesOfAllCodes(size)[i%3 : 18+i%3], lists: [][]impl.Patch{lists[i%len(lists)]}, step: int64(i%63) - 1},
			sessionCall{session: s, list: changes(compacting(), obeying(s.Policy)), step: 7}, sessionCall{session: s, step: 60},
		)
	}
	return calls
}

// P1: no call changes an argument, the lists of the session and of the changes among them, nor the room behind them.
func TestSessionsChangeNoArgument(t *testing.T) {
	for _, c := range sessionCalls() {
		given := c.roomy()
		before := given.whole()
		given.answers()
		if given.whole() != before {
			t.Errorf("%s: an argument was changed", c.brief())
		}
	}
}

// P1: what is written to an argument is not seen in an answer, and what is written to an answer in nothing else.
func TestSessionsShareNoMemory(t *testing.T) {
	for _, c := range sessionCalls() {
		given := c.roomy()
		before := given.whole()
		want := given.answers()
		shown := want.shown()
		given.answers().scribble()
		if given.whole() != before {
			t.Errorf("%s: what is written to an answer is seen in an argument", c.brief())
		}
		if want.shown() != shown || given.answers().shown() != shown {
			t.Errorf("%s: what is written to an answer is seen in another one", c.brief())
		}
		given.scribble()
		if want.shown() != shown {
			t.Errorf("%s: what is written to an argument is seen in an answer", c.brief())
		}
		want.scribble()
		if c.roomy().answers().shown() != shown {
			t.Errorf("%s: what is written is seen in what is answered then", c.brief())
		}
	}
}

// P1: no two lists of one answer lie in the same memory, the Puts of Patches, Codes and all lists of the session among them, nor a list or a word in an argument.
func TestListsOfASessionLieApart(t *testing.T) {
	for _, c := range sessionCalls() {
		given := c.roomy()
		answers := given.answers()
		spans := given.spans()
		names := answers.names()
		for _, lists := range answers.lists() {
			if !lieApart(lists) {
				t.Errorf("%s: two lists of one answer share memory", c.brief())
			}
			for _, a := range append(lists, names...) {
				if slices.ContainsFunc(spans, func(b span) bool { return overlap(a, b) }) {
					t.Errorf("%s: an answer shares memory with an argument", c.brief())
				}
			}
		}
	}
}

// P1: arguments that lie in the same memory are asked like others: a Put that is a piece of the session's own lists, a policy that is its own, tables and memos of one list.
func TestArgumentsOfSessionsThatShareMemory(t *testing.T) {
	for _, made := range sessionsOfAllKinds() {
		s := roomySession(made)
		if string(s.Table.Base) == string(s.Memo.Data) {
			s.Memo.Data = s.Table.Base
		}
		list := changes(obeying(s.Policy), compacting())
		for _, put := range [][]byte{s.Memo.Data, s.Memo.Data[len(s.Memo.Data)/2:], s.Out, s.Table.Base, s.Table.More, s.Memo.Held} {
			put = put[:min(len(put), 240)]
			list = append(list, impl.Change{Kind: impl.DoInsert, At: 1, Put: put}, impl.Change{Kind: impl.DoReplace, At: 0, N: int64(len(s.Memo.Data)), Put: put})
		}
		shared := sessionCall{session: s, list: list, lists: [][]impl.Patch{{{At: 0, Put: s.Out}}, {{At: 0, Put: s.Memo.Data}}}, step: 3}
		apart := shared.roomy()
		before := shared.whole()
		if shared.answers().shown() != apart.answers().shown() || shared.whole() != before {
			t.Errorf("%s: another answer, where arguments share memory", shared.brief())
		}
	}
}

// P1: what is put behind a list of an answer, into its room, is seen in no other one.
func TestSessionsGrowApart(t *testing.T) {
	s := madeSession(policyOf("b", "title", "http"), "a<b title=\"c\">d", 4)
	for _, c := range changes(inserting(2, "yz"), deleting(0, 3), replacing(1, 2, "<i"), obeying(policyOf("b i", "", "")), compacting()) {
		got := impl.RunChanges(s, changes(c, inserting(0, "<b>x")))
		want := shownRun(got)
		next := got.Session
		_, _, _ = append(next.Policy.Tags, "more"), append(next.Policy.Attrs, "more"), append(next.Policy.Schemes, "more")
		_, _, _ = append(next.Table.Base, "more"...), append(next.Table.More, "more"...), append(next.Table.Pieces, impl.Piece{}, impl.Piece{})
		_, _, _ = append(next.Memo.Data, "more"...), append(next.Memo.Held, "more"...), append(next.Out, "more"...)
		_, _ = append(next.Memo.Tokens, note(), note()), append(next.Memo.Checks, check(1, 2, "x"))
		_, _ = append(got.Codes, 7, 8), append(got.Patches, nil, nil)
		for _, list := range got.Patches {
			_ = append(list, patch(7, 7, "w"))
			for _, p := range list {
				_ = append(p.Put, "more than there was"...)
			}
		}
		if shownRun(got) != want {
			t.Errorf("by %s: got %s, want %s", briefChange(c), shownRun(got), want)
		}
	}
}

// P1: nil and an empty list are the same value, wherever one stands in a session or a change.
func TestNothingInASessionIsNothing(t *testing.T) {
	plain := madeSession(impl.Policy{}, "", 4)
	for i, none := range nothings[byte]() {
		words := nothings[string]()[i]
		p := impl.Policy{Tags: words, Attrs: words[:0:0], Schemes: words[:0:0]}
		memo := impl.Memo{Data: none, Step: 4, Tokens: nothings[impl.Token]()[i], Held: none[:0:0], Checks: []impl.Check{{Held: none[:0:0]}}}
		empty := impl.Session{Policy: p, Table: impl.Table{Base: none[:0:0], More: none[:0:0], Pieces: nothings[impl.Piece]()[i]}, Memo: memo, Out: none[:0:0]}
		wantSessionFault(t, "nothing", empty, impl.OK)
		wantSameSessions(t, "nothing", empty, plain, true)
		wantSession(t, "OpenSession of nothing", impl.OpenSession(p, none, 4), impl.SessionResult{Session: plain})
		for _, kind := range []int64{impl.DoInsert, impl.DoDelete, impl.DoReplace, impl.DoPolicy, impl.DoCompact} {
			c := impl.Change{Kind: kind, Put: none, Policy: p}
			wantChangeFault(t, c, impl.OK)
			wantSession(t, "nothing by "+briefChange(c), impl.DoChange(empty, c), impl.SessionResult{Session: plain})
		}
		wantRun(t, "nothing by nothing", impl.RunChanges(empty, nothings[impl.Change]()[i]), impl.ChangesResult{Session: plain})
		wantTold(t, "PreviewOf of nothing", impl.PreviewOf(none, [][]impl.Patch{nothings[impl.Patch]()[i]}), impl.BytesResult{})
	}
}

// P1: what is answered hangs on the arguments alone, not on what was called ahead of it.
func TestSessionsKeepNothing(t *testing.T) {
	calls := sessionCalls()
	var first []string
	for _, c := range calls {
		first = append(first, c.answers().shown())
	}
	for round := range 2 {
		for i := range calls {
			at := (i*7 + round*31) % len(calls)
			if calls[at].answers().shown() != first[at] {
				t.Errorf("%s: another answer than at first", calls[at].brief())
			}
		}
	}
}
