package tests

import (
	"fmt"
	"slices"
	"strings"
	"testing"

	"loop.example/g00606/impl"
)

// filterCall is one set of arguments for all functions of the filter.
type filterCall struct {
	p     impl.Policy
	nodes []impl.Node
	tag   string
}

// roomy has memory of its own for each list and each word, and room behind the lists.
func (c filterCall) roomy() filterCall {
	nodes := roomyNodes(c.nodes)
	for i := range nodes {
		nodes[i].Tag = strings.Clone(nodes[i].Tag)
		for j, a := range nodes[i].Attrs {
			nodes[i].Attrs[j].Name = strings.Clone(a.Name)
		}
	}
	return filterCall{p: roomyPolicy(c.p), nodes: nodes, tag: strings.Clone(c.tag)}
}

func (c filterCall) whole() string {
	return wholePolicy(c.p) + wholeNodes(c.nodes) + c.tag
}

func (c filterCall) scribble() {
	scribblePolicy(c.p)
	scribbleNodes(c.nodes[:cap(c.nodes)])
}

// spans are where all lists and words of the arguments lie.
func (c filterCall) spans() []span {
	spans := append(spansOfNodes(c.nodes), namesOfNodes(c.nodes)...)
	for _, words := range [][]string{c.p.Tags, c.p.Attrs, c.p.Schemes} {
		spans = append(spans, spanOf(words))
		for _, word := range words {
			spans = append(spans, wordSpan(word))
		}
	}
	return haveRoom(append(spans, wordSpan(c.tag)))
}

// told is all that the calls tell beside the tree that is kept.
func (c filterCall) told() string {
	return fmt.Sprint(impl.IsAllowed(c.p, c.nodes), impl.IsStable(c.nodes), impl.CountTags(c.nodes, c.tag))
}

func shownKept(r impl.NodesResult) string {
	return fmt.Sprint(r.Code, " ", shownNodes(r.Nodes))
}

// filterCalls are sets of arguments of every kind, with faults and without them.
func filterCalls() []filterCall {
	trees := append(memoryNodes(), allowedTree(), meeting(-1, "u", 9, 8, 7), meeting(2, "script", 30, 20), meeting(0, "u", 240, 1),
		nodesOf(element(-1, "p", attrsFrom("title", "own", "width", "01.50")...), element(0, "p"), textNode(1, "some text"), element(0, "b", attrsFrom("href", "/x", "title", "two")...)))
	for seed := range uint32(25) {
		trees = append(trees, filterTree(int(seed*2), 3+seed%13, seed*77777))
	}
	policies := append(filterPolicies(), openPolicy(), allowingPolicy(), impl.Policy{Tags: rising(11)}, policyOf("", "A", ""))
	tags := []string{"b", "p", "", "script", "B"}
	var calls []filterCall
	for i, nodes := range trees {
		for j, p := range policies {
			calls = append(calls, filterCall{p: p, nodes: nodes, tag: tags[(i+j)%len(tags)]})
		}
	}
	return calls
}

// P1: no call changes a policy, nodes, their attributes, values and texts, nor the room behind them.
func TestFiltersChangeNoArgument(t *testing.T) {
	for _, call := range filterCalls() {
		given := call.roomy()
		before := given.whole()
		impl.FilterTree(given.p, given.nodes)
		given.told()
		if given.whole() != before {
			t.Errorf("%s was changed", briefFilter(call.p, call.nodes))
		}
	}
}

// P1: what is written to an argument is not seen in an answer, and what is written to an answer in nothing else.
func TestFiltersShareNoMemory(t *testing.T) {
	for _, call := range filterCalls() {
		what := briefFilter(call.p, call.nodes)
		given := call.roomy()
		before := given.whole()
		kept := impl.FilterTree(given.p, given.nodes)
		want := shownKept(kept)
		scribbleNodes(kept.Nodes[:cap(kept.Nodes)])
		if given.whole() != before {
			t.Errorf("%s: what is written to an answer is seen in an argument", what)
		}
		again := impl.FilterTree(given.p, given.nodes)
		if shownKept(again) != want {
			t.Errorf("%s: what is written to an answer is seen in what is answered then", what)
		}
		given.scribble()
		if shownKept(again) != want {
			t.Errorf("%s: what is written to an argument is seen in an answer", what)
		}
	}
}

// P1: no list and no word of an answer lies in the memory of an argument, nor a list in that of another one.
func TestListsOfFiltersLieApart(t *testing.T) {
	for _, call := range filterCalls() {
		given := call.roomy()
		kept := impl.FilterTree(given.p, given.nodes).Nodes
		lists := haveRoom(spansOfNodes(kept))
		for i, a := range lists {
			if slices.ContainsFunc(lists[:i], func(b span) bool { return overlap(a, b) }) {
				t.Errorf("%s: two lists of what is kept share memory", briefFilter(call.p, call.nodes))
			}
		}
		spans := given.spans()
		for _, a := range append(lists, haveRoom(namesOfNodes(kept))...) {
			if slices.ContainsFunc(spans, func(b span) bool { return overlap(a, b) }) {
				t.Errorf("%s: what is kept shares memory with an argument", briefFilter(call.p, call.nodes))
			}
		}
	}
}

// P1: the same arguments have the same answer, however often they are asked, and whatever was asked ahead of it.
func TestFiltersKeepNothing(t *testing.T) {
	calls := filterCalls()
	answer := func(c filterCall) string {
		return shownKept(impl.FilterTree(c.p, c.nodes)) + c.told()
	}
	var first []string
	for _, call := range calls {
		first = append(first, answer(call))
	}
	for round := range 3 {
		for i := range calls {
			at := (i*7 + round*31) % len(calls)
			if answer(calls[at]) != first[at] {
				t.Errorf("%s: another answer than at first", briefFilter(calls[at].p, calls[at].nodes))
			}
		}
	}
}

// P1: nil and an empty list are the same value, wherever one stands.
func TestNothingToFilter(t *testing.T) {
	for _, none := range [][]impl.Node{nil, {}, make([]impl.Node, 0, 9)} {
		for _, p := range []impl.Policy{{}, {Tags: []string{}, Attrs: make([]string, 0, 9)}, openPolicy()} {
			wantKept(t, p, none)
			wantAllowed(t, p, none, true)
		}
		wantStable(t, none, true)
		wantCount(t, none, "", impl.IntResult{})
	}
	for _, text := range [][]byte{nil, {}, make([]byte, 0, 9)} {
		for _, attrs := range [][]impl.Attr{nil, {}, make([]impl.Attr, 0, 9)} {
			nodes := nodesOf(impl.Node{Up: -1, Tag: "b", Attrs: attrs, Text: text}, impl.Node{Up: 0, Attrs: attrs, Text: []byte("x")}, element(0, "b", impl.Attr{Name: "title", Value: text}))
			wantAllowed(t, openPolicy(), nodes, true)
			wantKept(t, openPolicy(), nodes, element(-1, "b"), textNode(0, "x"), element(0, "b", attr("title", "")))
			wantCount(t, nodes, "b", impl.IntResult{Value: 2})
			wantCount(t, nodes, "", impl.IntResult{})
		}
	}
}
