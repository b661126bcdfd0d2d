package tests

import (
	"fmt"
	"slices"
	"strings"
	"testing"

	"loop.example/g00606/impl"
)

// roomyNodes is a deep copy whose lists have more room than they need, so that a
// program that appends to them in place is found out.
func roomyNodes(nodes []impl.Node) []impl.Node {
	all := make([]impl.Node, 0, len(nodes)+4)
	for _, n := range nodes {
		attrs := roomyToken(impl.Token{Attrs: n.Attrs}).Attrs
		all = append(all, impl.Node{Up: n.Up, Tag: n.Tag, Attrs: attrs, Text: roomyBytes(n.Text)})
	}
	return all
}

// wholeNodes shows nodes with all the room of their lists.
func wholeNodes(nodes []impl.Node) string {
	var text strings.Builder
	for _, n := range nodes[:cap(nodes)] {
		fmt.Fprintf(&text, "%d %q %s %q\n", n.Up, n.Tag, wholeToken(impl.Token{Attrs: n.Attrs}), n.Text[:cap(n.Text)])
	}
	return text.String()
}

func scribbleNodes(nodes []impl.Node) {
	for i := range nodes {
		scribbleBytes(nodes[i].Text)
		scribbleToken(impl.Token{Attrs: nodes[i].Attrs})
		nodes[i] = impl.Node{Up: nodes[i].Up + 7, Tag: nodes[i].Tag + "x"}
	}
}

// memoryNodes are trees and nodes with a fault of every code.
func memoryNodes() [][]impl.Node {
	lists := [][]impl.Node{nil, flatNodes(60), flatNodes(61), chainNodes(8), chainNodes(9), textsOfSizes(240, 1, 240), textsOfSizes(240, 240, 240, 240, 240, 240, 240, 240, 240)}
	lists = append(lists, nodesOf(textNode(-1, "x"), textNode(-1, "y")), nodesOf(element(3, "b")), nodesOf(impl.Node{}), nodesOf(element(-1, "b", attr("a", "x"), attr("a", "y"))), nodesOf(element(-1, "B", attr("a", "x"))))
	for seed := range uint32(20) {
		lists = append(lists, mixedTree(int(seed), 4+seed%12, seed), junkNodes(int(seed%5), seed))
	}
	return append(lists, differing()...)
}

// treeAnswers are the lists that the calls answer, and what they tell.
type treeAnswers struct {
	ints  [][]int64
	bytes []byte
	told  string
}

func (a treeAnswers) shown() string {
	return fmt.Sprintf("%v %q %s", a.ints, a.bytes, a.told)
}

func (a treeAnswers) scribble() {
	scribbleBytes(a.bytes)
	for _, ints := range a.ints {
		ints = ints[:cap(ints)]
		for i := range ints {
			ints[i] += 7
		}
	}
}

func treeCalls(nodes []impl.Node) treeAnswers {
	var all treeAnswers
	for at := int64(-2); at <= int64(len(nodes)); at++ {
		kids := impl.KidsOf(nodes, at)
		all.ints = append(all.ints, kids.List)
		all.told += fmt.Sprint(kids.Code, impl.DepthOf(nodes, at), impl.EndOf(nodes, at))
	}
	text := impl.TextIn(nodes)
	all.bytes = text.Bytes
	all.told += fmt.Sprint(text.Code, impl.TreeFault(nodes), impl.SameTrees(nodes, nodes))
	return all
}

// P1: no call changes nodes, their attributes and texts among them, nor the room behind them.
func TestTreesChangeNoArgument(t *testing.T) {
	for _, nodes := range memoryNodes() {
		given, other := roomyNodes(nodes), roomyNodes(nodes)
		before := wholeNodes(given)
		treeCalls(given)
		impl.SameTrees(given, other)
		impl.SameTrees(other, given[:len(given)/2])
		if wholeNodes(given) != before || wholeNodes(other) != before {
			t.Errorf("%s was changed", briefNodes(nodes))
		}
	}
}

// P1: what is written to an argument is not seen in an answer, and what is written to an answer in nothing else.
func TestTreesShareNoMemory(t *testing.T) {
	for _, nodes := range memoryNodes() {
		want := treeCalls(roomyNodes(nodes)).shown()
		given := roomyNodes(nodes)
		got := treeCalls(given)
		scribbleNodes(given)
		if got.shown() != want {
			t.Errorf("%s: what is written to an argument is seen in an answer", briefNodes(nodes))
		}
		given = roomyNodes(nodes)
		before := wholeNodes(given)
		got = treeCalls(given)
		next := treeCalls(given)
		got.scribble()
		if wholeNodes(given) != before {
			t.Errorf("%s: what is written to an answer is seen in an argument", briefNodes(nodes))
		}
		if next.shown() != want || treeCalls(given).shown() != want {
			t.Errorf("%s: what is written to an answer is seen in another one", briefNodes(nodes))
		}
	}
}

// spansOfNodes are those of all lists of nodes that have room.
func spansOfNodes(nodes []impl.Node) []span {
	spans := []span{spanOf(nodes)}
	for _, n := range nodes {
		spans = append(spans, spanOf(n.Attrs), spanOf(n.Text))
		for _, a := range n.Attrs {
			spans = append(spans, spanOf(a.Value))
		}
	}
	return spans
}

// P1: no list of an answer lies in the memory of an argument, nor of another answer.
func TestListsOfTreesLieApart(t *testing.T) {
	for _, nodes := range memoryNodes() {
		given := roomyNodes(nodes)
		got := treeCalls(given)
		spans := append(spansOfNodes(given), spanOf(got.bytes))
		for _, ints := range got.ints {
			spans = append(spans, spanOf(ints))
		}
		spans = slices.DeleteFunc(spans, func(s span) bool { return s.from >= s.to })
		for i, a := range spans {
			for _, b := range spans[:i] {
				if a.from < b.to && b.from < a.to {
					t.Errorf("%s: two lists share memory", briefNodes(nodes))
				}
			}
		}
	}
}

// P1: nil and an empty list are the same value, in each place of a node.
func TestNoTextsAndNoAttributesAreNone(t *testing.T) {
	emptyTexts := [][]byte{nil, {}, make([]byte, 0, 9)}
	emptyAttrs := [][]impl.Attr{nil, {}, make([]impl.Attr, 0, 9)}
	for _, text := range emptyTexts {
		for _, attrs := range emptyAttrs {
			nodes := nodesOf(impl.Node{Up: -1, Tag: "p", Attrs: attrs, Text: text}, impl.Node{Up: 0, Attrs: attrs, Text: []byte("x")}, element(0, "b", impl.Attr{Name: "a", Value: text}))
			wantTree(t, nodes)
			wantSameTrees(t, nodes, nodesOf(element(-1, "p"), textNode(0, "x"), element(0, "b", attr("a", ""))), true)
			wantTreeFault(t, nodesOf(impl.Node{Up: -1, Attrs: attrs, Text: text}), impl.ErrForm)
		}
	}
	for _, none := range [][]impl.Node{nil, {}, make([]impl.Node, 0, 9)} {
		wantSameTrees(t, none, nil, true)
		wantSameTrees(t, none, nodesOf(), true)
		wantSameTrees(t, none, nodesOf(impl.Node{}), false)
	}
}

// P1: what is answered hangs on the arguments alone, not on what was called ahead of it.
func TestTreesKeepNothing(t *testing.T) {
	lists := memoryNodes()
	var first []string
	for _, nodes := range lists {
		first = append(first, treeCalls(nodes).shown())
	}
	for step := range len(lists) {
		for i := range lists {
			at := (i*7 + step*step) % len(lists)
			if step < 5 && treeCalls(lists[at]).shown() != first[at] {
				t.Errorf("%s: another answer than at first", briefNodes(lists[at]))
			}
		}
	}
}
