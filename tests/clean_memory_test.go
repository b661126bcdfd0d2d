package tests

import (
	"fmt"
	"slices"
	"strings"
	"testing"

	"loop.example/g00606/impl"
)

// cleanCall is one set of arguments for all functions from text to text.
type cleanCall struct {
	p    impl.Policy
	data []byte
}

// roomy has memory of its own for each list and each word, and room behind the lists.
func (c cleanCall) roomy() cleanCall {
	return cleanCall{p: roomyPolicy(c.p), data: roomyBytes(c.data)}
}

func (c cleanCall) whole() string {
	return wholePolicy(c.p) + fmt.Sprintf("%q", c.data[:cap(c.data)])
}

func (c cleanCall) scribble() {
	scribblePolicy(c.p)
	scribbleBytes(c.data[:cap(c.data)])
}

func (c cleanCall) spans() []span {
	return append(filterCall{p: c.p}.spans(), haveRoom([]span{spanOf(c.data)})...)
}

func (c cleanCall) brief() string {
	return briefClean(c.p, string(c.data))
}

// cleanAnswers are all that the calls answer.
type cleanAnswers struct {
	out     impl.BytesResult
	tree    impl.NodesResult
	escaped impl.BytesResult
	clean   bool
}

func (c cleanCall) answers() cleanAnswers {
	return cleanAnswers{impl.SanitizeText(c.p, c.data), impl.CleanTree(c.p, c.data), impl.EscapeAll(c.data), impl.IsClean(c.p, c.data)}
}

func (a cleanAnswers) shown() string {
	return fmt.Sprintf("%d %q, %s, %d %q, %v", a.out.Code, a.out.Bytes, shownKept(a.tree), a.escaped.Code, a.escaped.Bytes, a.clean)
}

func (a cleanAnswers) scribble() {
	scribbleBytes(a.out.Bytes[:cap(a.out.Bytes)])
	scribbleBytes(a.escaped.Bytes[:cap(a.escaped.Bytes)])
	scribbleNodes(a.tree.Nodes[:cap(a.tree.Nodes)])
}

// lists are where all lists of the answers lie.
func (a cleanAnswers) lists() []span {
	return haveRoom(append(spansOfNodes(a.tree.Nodes), spanOf(a.out.Bytes), spanOf(a.escaped.Bytes)))
}

// cleanCalls are sets of arguments of every kind, with faults and without them.
func cleanCalls() []cleanCall {
	texts := []string{
		"", "x", "some text", "<b>x</b>", "a<u>b</u>c", "<p>a<p>b", `<a href="http:x" title="own">y</a>`, `<img width="01.50" src="/x">`, "&lt;b&gt;", "<script>x</script>y<b>z", "a<u>b</u>c<br>d<!-- e -->f",
		strings.Repeat("x", 240), strings.Repeat("x", 241), strings.Repeat("\"", 41), strings.Repeat("<p>", 61), strings.Repeat("<p>", 60), strings.Repeat("<br>", 60), string(allBytes()), string(allBytes()[:100]),
	}
	for seed := range uint32(30) {
		texts = append(texts, cleanText(int(seed%25), seed*77777))
	}
	policies := append(filterPolicies(), allowingPolicy(), impl.Policy{Tags: rising(11)}, policyOf("", "A", ""))
	var calls []cleanCall
	for _, text := range texts {
		for _, p := range policies {
			calls = append(calls, cleanCall{p: p, data: []byte(text)})
		}
	}
	return calls
}

// P1: no call changes a policy or data, nor the room behind them.
func TestSanitizingChangesNoArgument(t *testing.T) {
	for _, call := range cleanCalls() {
		given := call.roomy()
		before := given.whole()
		given.answers()
		if given.whole() != before {
			t.Errorf("%s was changed", call.brief())
		}
	}
}

// P1: what is written to an argument is not seen in an answer, and what is written to an answer in nothing else.
func TestSanitizingSharesNoMemory(t *testing.T) {
	for _, call := range cleanCalls() {
		given := call.roomy()
		before := given.whole()
		first := given.answers()
		want := first.shown()
		first.scribble()
		if given.whole() != before {
			t.Errorf("%s: what is written to an answer is seen in an argument", call.brief())
		}
		again := given.answers()
		if again.shown() != want {
			t.Errorf("%s: what is written to an answer is seen in what is answered then", call.brief())
		}
		given.scribble()
		if again.shown() != want {
			t.Errorf("%s: what is written to an argument is seen in an answer", call.brief())
		}
	}
}

// P1: no list and no word of an answer lies in the memory of an argument, nor a list in that of another one.
func TestListsOfSanitizingLieApart(t *testing.T) {
	for _, call := range cleanCalls() {
		given := call.roomy()
		got := given.answers()
		lists := got.lists()
		for i, a := range lists {
			if slices.ContainsFunc(lists[:i], func(b span) bool { return overlap(a, b) }) {
				t.Errorf("%s: two lists of the answers share memory", call.brief())
			}
		}
		spans := given.spans()
		for _, a := range append(lists, haveRoom(namesOfNodes(got.tree.Nodes))...) {
			if slices.ContainsFunc(spans, func(b span) bool { return overlap(a, b) }) {
				t.Errorf("%s: an answer shares memory with an argument", call.brief())
			}
		}
	}
}

// P1: the same arguments have the same answer, however often they are asked, and whatever was asked ahead of it.
func TestSanitizingKeepsNothing(t *testing.T) {
	calls := cleanCalls()
	var first []string
	for _, call := range calls {
		first = append(first, call.answers().shown())
	}
	for round := range 4 {
		for i := range calls {
			at := (i*7 + round*31) % len(calls)
			if calls[at].answers().shown() != first[at] {
				t.Errorf("%s: another answer than at first", calls[at].brief())
			}
		}
	}
}

// P1: nil and an empty list are the same value, wherever one stands.
func TestNothingInPoliciesThatSanitize(t *testing.T) {
	for _, none := range [][]string{nil, {}, make([]string, 0, 9)} {
		for _, data := range []string{"", "x", "<b title=\"y\">x", "&lt;"} {
			for number := range 3 {
				p := withList(openPolicy(), number, none)
				got, want := impl.SanitizeText(p, []byte(data)), impl.SanitizeText(withList(openPolicy(), number, nil), []byte(data))
				wantTold(t, "SanitizeText of "+briefClean(p, data), got, want)
				wantCleaned(t, p, data)
			}
		}
	}
}
