package tests

import (
	"math"
	"strings"
	"testing"

	"loop.example/g00606/impl"
)

// manyAttrs are n attributes, each of another name.
func manyAttrs(n int) []impl.Attr {
	var attrs []impl.Attr
	for i := range n {
		attrs = append(attrs, attr(string([]byte{byte('a' + i%26), byte('a' + i/26%26), byte('a' + i/676%26), byte('a' + i/17576%26)}), "v"))
	}
	return attrs
}

// neitherNodes are no elements and no texts, wherever they stand.
func neitherNodes(up int64) []impl.Node {
	some := []impl.Attr{attr("a", "x")}
	return nodesOf(
		impl.Node{Up: up}, impl.Node{Up: up, Attrs: some}, impl.Node{Up: up, Attrs: some, Text: []byte("x")}, impl.Node{Up: up, Attrs: []impl.Attr{attr("", "")}, Text: []byte("x")},
		impl.Node{Up: up, Tag: "b", Text: []byte("x")}, impl.Node{Up: up, Tag: "b", Attrs: some, Text: []byte("x")}, impl.Node{Up: up, Tag: "B", Text: []byte("x")}, impl.Node{Up: up, Tag: "br", Text: []byte("x")},
		impl.Node{Up: up, Tag: "b", Attrs: []impl.Attr{attr("", "")}, Text: []byte("x")}, impl.Node{Up: up, Tag: "b", Text: filled(241)},
		textNode(up, strings.Repeat("x", 241)), textNode(up, strings.Repeat("x", 242)), textNode(up, strings.Repeat("x", 256)), textNode(up, strings.Repeat("x", 2001)),
	)
}

// wrongMarks are nodes that have a code by themselves, wherever they stand.
func wrongMarks(up int64) map[int64][]impl.Node {
	form := append(neitherNodes(up),
		element(up, "b", attr("a", ""), attr("a", "")), element(up, "b", attr("a", "x"), attr("b", ""), attr("a", "y")), element(up, "img", attr("a", ""), attr("a", ""), attr("", "")))
	var text []impl.Node
	for _, name := range noNames() {
		if name != "" && len(name) < 100 {
			text = append(text, element(up, name), element(up, name, attr("a", ""), attr("a", "")))
		}
		if len(name) < 100 {
			text = append(text, element(up, "b", attr(name, "x")), element(up, "br", attr("a", ""), attr(name, ""), attr("a", "")))
		}
	}
	return map[int64][]impl.Node{impl.ErrForm: form, impl.ErrText: text}
}

func TestVeryLargeNodes(t *testing.T) {
	long, attrs := strings.Repeat("x", 1<<20), manyAttrs(2000)
	wantTree(t, nodesOf(element(-1, "b", attrs...)))
	wantTree(t, nodesOf(element(-1, "b", attr("a", long))))
	wantTreeFault(t, nodesOf(element(-1, "b", append(attrs, attr("aaaa", ""))...)), impl.ErrForm)
	wantTreeFault(t, nodesOf(element(-1, "b", append(attrs, attr("", ""), attr("aaaa", ""))...)), impl.ErrText)
	wantTreeFault(t, nodesOf(element(-1, "b", attr(long, ""))), impl.ErrText)
	wantTreeFault(t, nodesOf(element(-1, long)), impl.ErrText)
	wantTreeFault(t, nodesOf(textNode(-1, long)), impl.ErrForm)
	wantTreeFault(t, nodesOf(impl.Node{Up: -1, Tag: long, Text: []byte(long)}), impl.ErrForm)
}

func TestNodesThatAreNeither(t *testing.T) {
	for _, n := range neitherNodes(-1) {
		wantTreeFault(t, nodesOf(n), impl.ErrForm)
	}
	for _, n := range neitherNodes(1) {
		wantTreeFault(t, nodesOf(element(-1, "p"), element(0, "b"), n), impl.ErrForm)
	}
}

func TestMarksWithAFault(t *testing.T) {
	for code, list := range wrongMarks(-1) {
		for _, n := range list {
			wantTreeFault(t, nodesOf(n), code)
			wantTreeFault(t, nodesOf(element(-1, "p"), textNode(0, "x"), n), code)
		}
	}
	for code, list := range wrongMarks(0) {
		for _, n := range list {
			wantTreeFault(t, nodesOf(element(-1, "p"), n, textNode(0, "x")), code)
		}
	}
}

func TestMarksWithoutAFault(t *testing.T) {
	for _, n := range nodesOf(
		element(-1, "a"), element(-1, "z"), element(-1, "abcdefgh"), element(-1, "zzzzzzzz"), element(-1, "br"), element(-1, "img"), element(-1, "script"), element(-1, "brr"),
		element(-1, "b", attr("b", "")), element(-1, "b", attr("b", string(allBytes())), attr("a", "")), element(-1, "br", attr("br", strings.Repeat("x", 5000))),
		textNode(-1, "x"), textNode(-1, "\x00"), textNode(-1, "\xff"), textNode(-1, "<b>"), textNode(-1, string(allBytes()[:240])), textNode(-1, strings.Repeat("x", 239)), textNode(-1, strings.Repeat("x", 240)),
	) {
		wantTree(t, nodesOf(n))
		n.Up = 0
		wantTree(t, nodesOf(element(-1, "p"), n))
	}
}

// Up of a node behind others: the one ahead and those that it is in will do, and none; no other will.
func TestUps(t *testing.T) {
	nodes := nodesOf(element(-1, "p"), element(0, "b"), element(1, "i"), element(0, "b"), element(3, "i"), element(4, "b"))
	for _, next := range nodesOf(element(0, "b"), element(0, "br"), textNode(0, "x")) {
		for _, up := range placesToAsk(nodes) {
			code := int64(impl.ErrRange)
			if up == -1 || up == 0 || up == 3 || up == 4 || up == 5 {
				code = impl.OK
			}
			next.Up = up
			wantTreeFault(t, behindNodes(nodes, next), code)
			wantTreeFault(t, behindNodes(nodes, next, next), codeOfTwo(code, next))
		}
	}
}

// codeOfTwo is that of the same node twice: two texts stand side by side, and two elements do not.
func codeOfTwo(code int64, next impl.Node) int64 {
	if code == impl.OK && next.Tag == "" {
		return impl.ErrForm
	}
	return code
}

func TestUpOfTheFirstNode(t *testing.T) {
	for _, first := range nodesOf(element(0, "b"), element(0, "br"), textNode(0, "x")) {
		for _, up := range oddNumbers() {
			code := int64(impl.ErrRange)
			if up == -1 {
				code = impl.OK
			}
			first.Up = up
			wantTreeFault(t, nodesOf(first), code)
			wantTreeFault(t, nodesOf(first, element(-1, "b")), code)
		}
	}
}

// Nothing is in a text, nor in a void one, where that is the node ahead; where it is closed, Up is not so at all.
func TestUpsThatHoldNothing(t *testing.T) {
	for _, leaf := range nodesOf(textNode(0, "x"), element(0, "br"), element(0, "img"), element(0, "img", attr("src", "y"))) {
		for _, next := range nodesOf(element(0, "b"), element(0, "br"), textNode(0, "y")) {
			leaf.Up, next.Up = -1, 0
			wantTreeFault(t, nodesOf(leaf, next), impl.ErrForm)
			wantTreeFault(t, nodesOf(leaf, element(-1, "b"), next), impl.ErrRange)
			leaf.Up, next.Up = 0, 1
			wantTreeFault(t, nodesOf(element(-1, "p"), leaf, next), impl.ErrForm)
			wantTreeFault(t, nodesOf(element(-1, "p"), leaf, element(0, "b"), next), impl.ErrRange)
			wantTreeFault(t, nodesOf(element(-1, "p"), leaf, element(-1, "b"), next), impl.ErrRange)
		}
	}
	for _, tag := range []string{"b", "p", "brr", "imgs", "bri", "im", "r", "g", "script"} {
		wantTree(t, nodesOf(element(-1, tag), element(0, "b"), textNode(0, "x")))
	}
}

func TestTextsSideBySide(t *testing.T) {
	x, y := textNode(-1, "x"), textNode(-1, "y")
	wantTreeFault(t, nodesOf(x, y), impl.ErrForm)
	wantTreeFault(t, nodesOf(x, x), impl.ErrForm)
	wantTreeFault(t, nodesOf(element(-1, "b"), x, y), impl.ErrForm)
	wantTreeFault(t, nodesOf(element(-1, "b"), textNode(0, "x"), textNode(0, "y")), impl.ErrForm)
	wantTreeFault(t, nodesOf(element(-1, "b"), element(0, "i"), textNode(1, "x"), textNode(0, "x"), textNode(0, "y")), impl.ErrForm)
	wantTreeFault(t, append(chainNodes(7), textNode(6, "x"), textNode(6, "y")), impl.ErrForm)
	for _, tag := range []string{"br", "img", "b"} {
		wantTree(t, nodesOf(x, element(-1, tag), y))
		wantTree(t, nodesOf(element(-1, "p"), textNode(0, "x"), element(0, tag), textNode(0, "y")))
	}
	wantTree(t, nodesOf(x, element(-1, "b"), textNode(1, "y")))
	wantTree(t, nodesOf(element(-1, "b"), textNode(0, "x"), y))
	wantTree(t, nodesOf(element(-1, "b"), element(0, "i"), textNode(1, "x"), textNode(0, "y"), textNode(-1, "z")))
	wantTree(t, nodesOf(x, element(-1, "b"), textNode(1, "y"), textNode(-1, "z")))
	wantTree(t, nodesOf(element(-1, "b"), textNode(0, "x"), element(-1, "b"), textNode(2, "y")))
}

func TestDepths(t *testing.T) {
	for _, leaf := range nodesOf(element(0, "b"), element(0, "br"), textNode(0, "x")) {
		for depth := range 12 {
			leaf.Up = int64(depth) - 1
			code := int64(impl.OK)
			if depth >= impl.MaxDepth {
				code = impl.ErrMany
			}
			wantTreeFault(t, append(chainNodes(depth), leaf), code)
			wantTreeFault(t, append(chainNodes(depth), leaf, element(-1, "b")), code)
		}
	}
	// Behind eight that are in one another, but in fewer.
	wantTree(t, append(chainNodes(8), textNode(-1, "x")))
	wantTree(t, append(chainNodes(8), textNode(6, "x"), element(6, "b"), element(5, "b"), element(10, "b")))
	wantTreeFault(t, append(chainNodes(8), element(5, "b"), element(8, "b"), element(9, "b")), impl.ErrMany)
}

func TestSizesOfTrees(t *testing.T) {
	for _, none := range [][]impl.Node{nil, {}, make([]impl.Node, 0, 9)} {
		wantTree(t, none)
	}
	wantTree(t, flatNodes(59))
	wantTree(t, flatNodes(60))
	for _, n := range []int{61, 62, 100, 256, 100000} {
		wantTreeFault(t, flatNodes(n), impl.ErrMany)
		// One that is too many counts ahead of all else.
		for _, list := range wrongMarks(-1) {
			wantTreeFault(t, append(nodesOf(list[0]), flatNodes(n-1)...), impl.ErrMany)
			wantTreeFault(t, append(flatNodes(n-1), list[0]), impl.ErrMany)
		}
		wantTreeFault(t, append(nodesOf(element(7, "b")), flatNodes(n-1)...), impl.ErrMany)
	}
	wantTreeFault(t, append(chainNodes(9), flatNodes(60)...), impl.ErrMany)
	wantTreeFault(t, append(nodesOf(element(7, "b")), flatNodes(59)...), impl.ErrRange)
	wantTreeFault(t, append(flatNodes(59), impl.Node{Up: -1}), impl.ErrForm)
	wantTreeFault(t, append(flatNodes(59), element(-1, "B")), impl.ErrText)
}

// Several faults at one node: the codes in their order.
func TestOrderOfCodesAtOneNode(t *testing.T) {
	twice, noName := []impl.Attr{attr("a", ""), attr("a", "")}, []impl.Attr{attr("", "")}
	leaves := nodesOf(textNode(6, "x"), element(6, "br"))
	for _, leaf := range leaves {
		deep := append(chainNodes(7), leaf)
		for _, c := range []struct {
			node impl.Node
			code int64
		}{
			{impl.Node{Up: 99, Tag: "B", Attrs: twice, Text: []byte("x")}, impl.ErrForm},
			{impl.Node{Up: 99, Attrs: noName}, impl.ErrForm},
			{impl.Node{Up: 99, Tag: "B", Attrs: twice}, impl.ErrText},
			{impl.Node{Up: 7, Tag: "B", Attrs: twice}, impl.ErrText},
			{impl.Node{Up: 7, Tag: "b", Attrs: noName}, impl.ErrText},
			{impl.Node{Up: 99, Tag: "b", Attrs: twice}, impl.ErrForm},
			{impl.Node{Up: math.MinInt64, Tag: "b", Attrs: noName}, impl.ErrText},
			{impl.Node{Up: 99, Text: []byte("x")}, impl.ErrRange},
			{impl.Node{Up: 8, Tag: "b"}, impl.ErrRange},
			{impl.Node{Up: -2, Tag: "br"}, impl.ErrRange},
			// In a text or a void one, and in eight.
			{impl.Node{Up: 7, Tag: "b"}, impl.ErrForm},
			{impl.Node{Up: 7, Text: []byte("x")}, impl.ErrForm},
		} {
			wantTreeFault(t, behindNodes(deep, c.node), c.code)
		}
	}
	wantTreeFault(t, append(chainNodes(8), element(7, "B")), impl.ErrText)
	wantTreeFault(t, append(chainNodes(8), impl.Node{Up: 7}), impl.ErrForm)
	wantTreeFault(t, append(chainNodes(8), element(7, "b", twice...)), impl.ErrForm)
	wantTreeFault(t, append(chainNodes(8), element(8, "b")), impl.ErrRange)
	wantTreeFault(t, append(chainNodes(8), element(7, "b")), impl.ErrMany)
}

// badNode is a node with a fault behind a chain of eight elements, by which each code has its place.
type badNode struct {
	node impl.Node
	code int64
}

// A later code at an earlier node is told ahead of an earlier code at a later one.
func TestOrderOfCodesNodeByNode(t *testing.T) {
	bad := []badNode{
		{impl.Node{Up: -1}, impl.ErrForm}, {element(-1, "B"), impl.ErrText}, {element(-1, "b", attr("", "")), impl.ErrText}, {element(-1, "b", attr("a", ""), attr("a", "")), impl.ErrForm},
		{element(99, "b"), impl.ErrRange}, {textNode(-3, "x"), impl.ErrRange}, {element(7, "b"), impl.ErrMany}, {textNode(7, "x"), impl.ErrMany},
	}
	for _, first := range bad {
		for _, second := range bad {
			wantTreeFault(t, append(chainNodes(8), first.node, second.node), first.code)
			wantTreeFault(t, append(chainNodes(8), element(6, "br"), first.node, element(-1, "b"), second.node), codeBehindBreak(first))
		}
	}
	wantTreeFault(t, nodesOf(textNode(-1, "x"), textNode(-1, "y"), element(-1, "B")), impl.ErrForm)
	wantTreeFault(t, nodesOf(element(-1, "B"), textNode(-1, "x"), textNode(-1, "y")), impl.ErrText)
	wantTreeFault(t, nodesOf(element(-1, "br"), element(0, "b"), element(9, "b")), impl.ErrForm)
	wantTreeFault(t, nodesOf(element(-1, "br"), element(9, "b"), element(0, "b")), impl.ErrRange)
	wantTreeFault(t, nodesOf(element(-1, "b", attr("", "")), impl.Node{}), impl.ErrText)
}

// codeBehindBreak is the code behind a node that closed the last one of the chain.
func codeBehindBreak(bad badNode) int64 {
	if bad.node.Up == 7 {
		return impl.ErrRange
	}
	return bad.code
}

// All short lists of nodes, with every Up from -2 to behind the last one.
func TestShortListsOfNodes(t *testing.T) {
	marks := nodesOf(element(0, "b"), element(0, "br"), textNode(0, "x"), impl.Node{}, element(0, "B"), element(0, "b", attr("a", ""), attr("a", "")))
	counts := map[int64]int{}
	var grow func(nodes []impl.Node, n int)
	grow = func(nodes []impl.Node, n int) {
		code := treeFaultOf(nodes)
		counts[code]++
		if got := impl.TreeFault(nodes); got != code {
			t.Errorf("TreeFault of %s: got %d, want %d", briefNodes(nodes), got, code)
		}
		if len(nodes) == n {
			return
		}
		for _, one := range marks {
			for up := int64(-2); up <= int64(len(nodes))+1; up++ {
				one.Up = up
				grow(behindNodes(nodes, one), n)
			}
		}
	}
	grow(nil, 3)
	marks = marks[:3]
	grow(nil, 4)
	for _, code := range []int64{impl.OK, impl.ErrForm, impl.ErrText, impl.ErrRange} {
		if counts[code] == 0 {
			t.Errorf("no list has the code %d", code)
		}
	}
}

// Each node of a tree turned into one with a fault, or put where it may not be.
func TestTreesWithOneFault(t *testing.T) {
	for seed := range uint32(40) {
		nodes := mixedTree(int(5+seed%20), 4+seed%12, seed)
		for at := range nodes {
			for code, list := range wrongMarks(nodes[at].Up) {
				broken := behindNodes(nodes)
				broken[at] = list[int(seed)%len(list)]
				wantTreeFault(t, broken, code)
			}
			for up := int64(-2); up <= int64(len(nodes)); up++ {
				broken := behindNodes(nodes)
				broken[at].Up = up
				if got, want := impl.TreeFault(broken), treeFaultOf(broken); got != want {
					t.Errorf("TreeFault of %s: got %d, want %d", briefNodes(broken), got, want)
				}
			}
		}
	}
}

// junkNodes are nodes of all kinds in no order, as great and small as they can be.
func junkNodes(n int, seed uint32) []impl.Node {
	ups := append(oddNumbers(), -1, -1, 0, 1, 2)
	marks := append(mixedMarks(), neitherNodes(0)[:8]...)
	var nodes []impl.Node
	for range n {
		seed = seed*1664525 + 1013904223
		one := marks[int(seed>>16)%len(marks)]
		seed = seed*1664525 + 1013904223
		one.Up = ups[int(seed>>16)%len(ups)]
		nodes = append(nodes, one)
	}
	return nodes
}

// P1: nothing panics, whatever it is given.
func TestJunkHasAnswers(t *testing.T) {
	for seed := range uint32(3000) {
		nodes := junkNodes(int(seed%9), seed)
		code := treeFaultOf(nodes)
		if code == impl.OK {
			wantTree(t, nodes)
			continue
		}
		wantTreeFault(t, nodes, code)
		if !impl.SameTrees(nodes, behindNodes(nodes)) {
			t.Errorf("SameTrees of %s: not the same as itself", briefNodes(nodes))
		}
	}
}
