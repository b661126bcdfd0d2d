package tests

import (
	"fmt"
	"slices"
	"strings"
	"testing"

	"loop.example/g00606/impl"
)

// wordyNodes is roomyNodes whose words lie in memory of their own, too.
func wordyNodes(nodes []impl.Node) []impl.Node {
	return filterCall{nodes: nodes}.roomy().nodes
}

// writeAnswers are all bytes and texts that the calls answer, and what they tell.
type writeAnswers struct {
	bytes [][]byte
	texts []string
	told  string
}

func (a writeAnswers) shown() string {
	return fmt.Sprintf("%q %q %s", a.bytes, a.texts, a.told)
}

func (a writeAnswers) scribble() {
	for _, b := range a.bytes {
		scribbleBytes(b[:cap(b)])
	}
}

func writeCalls(nodes []impl.Node) writeAnswers {
	var all writeAnswers
	put := func(r impl.BytesResult) {
		all.bytes = append(all.bytes, r.Bytes)
		all.told += fmt.Sprint(" ", r.Code)
	}
	put(impl.WriteTree(nodes))
	for at := int64(-2); at <= int64(len(nodes)); at++ {
		put(impl.WriteNode(nodes, at))
		all.told += fmt.Sprint(impl.SpanOf(nodes, at))
	}
	for _, n := range nodes[:min(len(nodes), 9)] {
		open := impl.OpenText(n.Tag, n.Attrs)
		all.texts = append(all.texts, open.Text)
		all.told += fmt.Sprint(" ", open.Code)
	}
	return all
}

// writeTrees are trees of every kind, with faults and without them.
func writeTrees() [][]impl.Node {
	trees := append(memoryNodes(), allowedTree(), nodesOf(sized(-1, 160), textNode(0, "some text")), nodesOf(sized(-1, 161)), nodesOf(textNode(-1, strings.Repeat("x", 240))),
		nodesOf(element(-1, "p", attr("title", "own"), attr("a", "\"")), textNode(0, "a<b"), element(0, "img", attr("src", "/x")), textNode(-1, "some text")))
	for seed := range uint32(30) {
		trees = append(trees, filterTree(int(seed%13), 3+seed%13, seed*77777))
	}
	return trees
}

// P1: no call changes nodes, their attributes, values and texts, nor the room behind them.
func TestWritingChangesNoArgument(t *testing.T) {
	for _, nodes := range writeTrees() {
		given := wordyNodes(nodes)
		before := wholeNodes(given)
		writeCalls(given)
		if wholeNodes(given) != before {
			t.Errorf("%s was changed", briefNodes(nodes))
		}
	}
}

// P1: what is written to an argument is not seen in an answer, and what is written to an answer in nothing else.
func TestWritingSharesNoMemory(t *testing.T) {
	for _, nodes := range writeTrees() {
		given := wordyNodes(nodes)
		before := wholeNodes(given)
		first := writeCalls(given)
		want := first.shown()
		first.scribble()
		if wholeNodes(given) != before {
			t.Errorf("%s: what is written to an answer is seen in an argument", briefNodes(nodes))
		}
		again := writeCalls(given)
		if again.shown() != want {
			t.Errorf("%s: what is written to an answer is seen in what is answered then", briefNodes(nodes))
		}
		scribbleNodes(given[:cap(given)])
		if again.shown() != want {
			t.Errorf("%s: what is written to an argument is seen in an answer", briefNodes(nodes))
		}
	}
}

// P1: no bytes and no text of an answer lie in the memory of an argument, nor in that of another answer.
func TestTextsOfWritingLieApart(t *testing.T) {
	for _, nodes := range writeTrees() {
		given := wordyNodes(nodes)
		got := writeCalls(given)
		var spans []span
		for _, b := range got.bytes {
			spans = append(spans, spanOf(b))
		}
		for _, text := range got.texts {
			spans = append(spans, wordSpan(text))
		}
		spans = haveRoom(spans)
		others := haveRoom(append(spansOfNodes(given), namesOfNodes(given)...))
		for i, a := range spans {
			if slices.ContainsFunc(append(others, spans[:i]...), func(b span) bool { return overlap(a, b) }) {
				t.Errorf("%s: an answer shares memory", briefNodes(nodes))
			}
		}
	}
}

// P1: the same arguments have the same answer, however often they are asked, and whatever was asked ahead of it.
func TestWritingKeepsNothing(t *testing.T) {
	trees := writeTrees()
	var first []string
	for _, nodes := range trees {
		first = append(first, writeCalls(nodes).shown())
	}
	for round := range 4 {
		for i := range trees {
			at := (i*7 + round*31) % len(trees)
			if writeCalls(trees[at]).shown() != first[at] {
				t.Errorf("%s: another answer than at first", briefNodes(trees[at]))
			}
		}
	}
}

// P1: nil and an empty list are the same value, wherever one stands.
func TestNothingInNodesIsWritten(t *testing.T) {
	for _, text := range [][]byte{nil, {}, make([]byte, 0, 9)} {
		for _, attrs := range [][]impl.Attr{nil, {}, make([]impl.Attr, 0, 9)} {
			nodes := nodesOf(impl.Node{Up: -1, Tag: "b", Attrs: attrs, Text: text}, impl.Node{Up: 0, Attrs: attrs, Text: []byte("x")}, element(0, "br", impl.Attr{Name: "a", Value: text}))
			wantAsText(t, nodes, `<b>x<br a=""></b>`)
			wantOpen(t, "b", attrs, "<b>")
			wantOpen(t, "b", []impl.Attr{{Name: "a", Value: text}}, `<b a="">`)
		}
	}
}
