package tests

import (
	"fmt"
	"slices"
	"strings"
	"testing"

	"loop.example/g00606/impl"
)

// scriptCall is one set of arguments for all functions of scripts.
type scriptCall struct {
	session impl.Session
	lines   []string
	script  string
	list    []impl.Patch
}

// roomy has memory of its own for each list and each text, and room behind the lists.
func (c scriptCall) roomy() scriptCall {
	return scriptCall{session: roomySession(c.session), lines: roomyWords(c.lines), script: strings.Clone(c.script), list: roomyPatches(c.list)}
}

func (c scriptCall) whole() string {
	return fmt.Sprintf("%s %q %q %s", wholeSession(c.session), c.lines, c.script, wholePatches(c.list))
}

func (c scriptCall) scribble() {
	scribbleSession(c.session)
	scribblePatches(c.list)
}

// spans are where all lists, words and texts of the arguments lie.
func (c scriptCall) spans() []span {
	spans := slices.Concat(spansOfSession(c.session), namesOfSession(c.session), spansOfPatches(c.list), []span{wordSpan(c.script)})
	for _, line := range c.lines {
		spans = append(spans, wordSpan(line))
	}
	return haveRoom(spans)
}

func (c scriptCall) brief() string {
	return fmt.Sprintf("%s by %.400q, %.900q, %s", briefSession(c.session), c.lines, c.script, briefPatches(c.list))
}

// scriptAnswers are all that the calls answer.
type scriptAnswers struct {
	steps []impl.ScriptResult
	run   impl.ScriptResult
	words []impl.WordsResult
	text  impl.TextResult
}

func (c scriptCall) answers() scriptAnswers {
	a := scriptAnswers{run: impl.RunScript(c.session, c.script), text: impl.PatchText(c.list)}
	for _, line := range c.lines {
		a.steps, a.words = append(a.steps, impl.StepScript(c.session, line)), append(a.words, impl.WordsOf(line))
	}
	a.words = append(a.words, impl.WordsOf(c.script))
	return a
}

func (a scriptAnswers) shown() string {
	text := fmt.Sprintf("%s, %+v", shownScript(a.run), a.text)
	for _, words := range a.words {
		text += fmt.Sprintf(", %d %q", words.Code, words.Words)
	}
	for _, step := range a.steps {
		text += ", " + shownScript(step)
	}
	return text
}

func (a scriptAnswers) scribble() {
	scribbleSession(a.run.Session)
	for _, step := range a.steps {
		scribbleSession(step.Session)
	}
	for _, words := range a.words {
		scribbleWords(words.Words)
	}
}

// lists are where the lists of each answer lie.
func (a scriptAnswers) lists() [][]span {
	all := [][]span{spansOfSession(a.run.Session)}
	for _, step := range a.steps {
		all = append(all, spansOfSession(step.Session))
	}
	for _, words := range a.words {
		all = append(all, haveRoom([]span{spanOf(words.Words)}))
	}
	return all
}

// names are where the words of each answer lie, and what is said.
func (a scriptAnswers) names() [][]span {
	all := [][]span{{wordSpan(a.text.Text)}}
	for _, result := range append(slices.Clone(a.steps), a.run) {
		all = append(all, append(namesOfPolicy(result.Session.Policy), wordSpan(result.Said)))
	}
	for _, words := range a.words {
		var spans []span
		for _, word := range words.Words {
			spans = append(spans, wordSpan(word))
		}
		all = append(all, spans)
	}
	return all
}

// scriptCalls are sets of arguments of every kind, sessions with faults and without them, lines and scripts with codes and without them.
func scriptCalls() []scriptCall {
	sessions := slices.Concat(scriptSessions(), []impl.Session{crowded(40)}, faultySessions())
	var calls []scriptCall
	for i, s := range sessions {
		size := int64(len(s.Memo.Data))
		lists := patchLists(size)
		calls = append(calls,
			scriptCall{session: s, lines: append(plainLines(), changeLines(size)...), script: someScript(15, int(size), uint32(i)*7919), list: lists[i%len(lists)]},
			scriptCall{session: s, lines: append(codeLines(size)[i%9:], " a  b ", "a,b a\nb", "policy a,b,i href,title http,https"), script: "policy a,b,i href,title http,https\ntext\nshow\ninsert 0 x", list: lists[i*7%len(lists)]},
			scriptCall{session: s, script: strings.Repeat("x", 801)},
		)
	}
	return calls
}

// P1: no call changes an argument, the lists of the session and of the patches among them, nor the room behind them.
func TestScriptsChangeNoArgument(t *testing.T) {
	for _, c := range scriptCalls() {
		given := c.roomy()
		before := given.whole()
		given.answers()
		if given.whole() != before {
			t.Errorf("%s: an argument was changed", c.brief())
		}
	}
}

// P1: what is written to an argument is not seen in an answer, and what is written to an answer in nothing else.
func TestScriptsShareNoMemory(t *testing.T) {
	for _, c := range scriptCalls() {
		given := c.roomy()
		before := given.whole()
		want := given.answers()
		shown := want.shown()
		given.answers().scribble()
		if given.whole() != before {
			t.Errorf("%s: what is written to an answer is seen in an argument", c.brief())
		}
		if want.shown() != shown || given.answers().shown() != shown {
			t.Errorf("%s: what is written to an answer is seen in another one", c.brief())
		}
		given.scribble()
		if want.shown() != shown {
			t.Errorf("%s: what is written to an argument is seen in an answer", c.brief())
		}
		want.scribble()
		if c.roomy().answers().shown() != shown {
			t.Errorf("%s: what is written is seen in what is answered then", c.brief())
		}
	}
}

// P1: no two lists of one answer lie in the same memory, nor a list, a word or what is said in an argument: a word is no piece of its line.
func TestListsOfAScriptLieApart(t *testing.T) {
	for _, c := range scriptCalls() {
		given := c.roomy()
		answers := given.answers()
		spans := given.spans()
		for _, lists := range append(answers.lists(), answers.names()...) {
			if !lieApart(haveRoom(lists)) {
				t.Errorf("%s: two lists of one answer share memory", c.brief())
			}
			for _, a := range haveRoom(lists) {
				if slices.ContainsFunc(spans, func(b span) bool { return overlap(a, b) }) {
					t.Errorf("%s: an answer shares memory with an argument", c.brief())
				}
			}
		}
	}
}

// P1: what is put behind a list of an answer, into its room, is seen in no other one.
func TestScriptsGrowApart(t *testing.T) {
	s := madeSession(policyOf("b", "title", "http"), "a<b title=\"c\">d", 4)
	for _, line := range append(plainLines(), changeLines(15)...) {
		got := impl.StepScript(s, line)
		want := shownScript(got)
		next := got.Session
		_, _, _ = append(next.Policy.Tags, "more"), append(next.Policy.Attrs, "more"), append(next.Policy.Schemes, "more")
		_, _, _ = append(next.Table.Base, "more"...), append(next.Table.More, "more"...), append(next.Table.Pieces, impl.Piece{}, impl.Piece{})
		_, _, _ = append(next.Memo.Data, "more"...), append(next.Memo.Held, "more"...), append(next.Out, "more"...)
		_, _ = append(next.Memo.Tokens, note(), note()), append(next.Memo.Checks, check(1, 2, "x"))
		if shownScript(got) != want {
			t.Errorf("%q: got %s, want %s", line, shownScript(got), want)
		}
	}
}

// P1: nil and an empty list are the same value, wherever one stands in a session or in patches.
func TestNothingInAScriptIsNothing(t *testing.T) {
	plain := madeSession(impl.Policy{}, "", 4)
	for i, none := range nothings[byte]() {
		words := nothings[string]()[i]
		p := impl.Policy{Tags: words, Attrs: words[:0:0], Schemes: words[:0:0]}
		memo := impl.Memo{Data: none, Step: 4, Tokens: nothings[impl.Token]()[i], Held: none[:0:0], Checks: []impl.Check{{Held: none[:0:0]}}}
		empty := impl.Session{Policy: p, Table: impl.Table{Base: none[:0:0], More: none[:0:0], Pieces: nothings[impl.Piece]()[i]}, Memo: memo, Out: none[:0:0]}
		for _, line := range slices.Concat(plainLines(), changeLines(0), codeLines(0)) {
			wantScriptResult(t, fmt.Sprintf("nothing by %q", line), impl.StepScript(empty, line), stepOf(plain, line))
			wantScriptResult(t, fmt.Sprintf("nothing by the script %q", line), impl.RunScript(empty, line), scriptOf(plain, line))
		}
		wantScriptResult(t, "nothing by nothing", impl.RunScript(empty, ""), impl.ScriptResult{Session: plain})
		wantPatchText(t, []impl.Patch{{Put: none}}, impl.OK, "0,0,0")
	}
}

// P1: what is answered hangs on the arguments alone, not on what was called ahead of it.
func TestScriptsKeepNothing(t *testing.T) {
	calls := scriptCalls()
	var first []string
	for _, c := range calls {
		first = append(first, c.answers().shown())
	}
	for round := range 2 {
		for i := range calls {
			at := (i*7 + round*31) % len(calls)
			if calls[at].answers().shown() != first[at] {
				t.Errorf("%s: another answer than at first", calls[at].brief())
			}
		}
	}
}
