package tests

import (
	"strings"
	"testing"

	"loop.example/g00606/impl"
)

// A tree's fault is asked ahead of all else, and beside it there is nothing.
func TestWritingOfTreesWithAFault(t *testing.T) {
	for code, trees := range badTrees() {
		for _, nodes := range trees {
			for _, at := range append(noPlaces(len(nodes)), 0, int64(len(nodes))-1) {
				wantCodes(t, nodes, at, code, code, code)
			}
		}
	}
	large := nodesOf(sized(-1, 200), textNode(-1, strings.Repeat("x", 240)))
	for _, at := range append(noPlaces(3), 0, 1, 2) {
		wantCodes(t, behindNodes(large, element(9, "b")), at, impl.ErrRange, impl.ErrRange, impl.ErrRange)
		wantCodes(t, behindNodes(large, element(-1, "B")), at, impl.ErrText, impl.ErrText, impl.ErrText)
		wantCodes(t, behindNodes(large, textNode(-1, "y")), at, impl.ErrForm, impl.ErrForm, impl.ErrForm)
		wantCodes(t, append(flatNodes(60), sized(-1, 200)), at, impl.ErrMany, impl.ErrMany, impl.ErrMany)
	}
}

// A place that is none: WriteNode asks for it ahead of starts and sizes, SpanOf behind them.
func TestOrderOfPlacesAndSizes(t *testing.T) {
	x := strings.Repeat("x", 240)
	for _, nodes := range [][]impl.Node{
		nodesOf(sized(-1, 161)), nodesOf(sized(-1, 161), textNode(-1, "x")), nodesOf(element(-1, "p"), sized(0, 161)), nodesOf(element(-1, "p"), textNode(0, x)), nodesOf(textNode(-1, x), element(-1, "br")),
		nodesOf(textNode(-1, x), sized(-1, 161)), nodesOf(sized(-1, 161), textNode(-1, x)), nodesOf(element(-1, "b", manyAttrs(100)...)), nodesOf(element(-1, "b", attr("a", x+x))),
	} {
		for _, at := range noPlaces(len(nodes)) {
			wantCodes(t, nodes, at, impl.ErrLarge, impl.ErrRange, impl.ErrLarge)
		}
	}
	for _, nodes := range [][]impl.Node{nil, nodesOf(sized(-1, 160)), nodesOf(textNode(-1, x)), chainNodes(8)} {
		for _, at := range noPlaces(len(nodes)) {
			wantCodes(t, nodes, at, impl.OK, impl.ErrRange, impl.ErrRange)
		}
	}
}

// A start that is too large has a code of its own, in a text that is not, and whichever node is asked for.
func TestStartsThatAreTooLarge(t *testing.T) {
	nodes := nodesOf(textNode(-1, "x"), element(-1, "p"), sized(1, 161), textNode(2, "y"), textNode(1, "z"), element(-1, "br"))
	if size := len(textInside(nodes, -1)); size > 240 {
		t.Errorf("the text has %d bytes: that says too little", size)
	}
	wantNoPlaceWritten(t, nodes)
	nodes[2] = sized(1, 160)
	for at, text := range map[int64]string{0: "x", 3: "y", 4: "z", 5: "<br>"} {
		wantNodeText(t, nodes, at, text)
	}
}

// wantNoPlaceWritten asks a tree with a start that is too large at each of its places, and at what is no place of it.
func wantNoPlaceWritten(t *testing.T, nodes []impl.Node) {
	t.Helper()
	for at := range nodes {
		wantCodes(t, nodes, int64(at), impl.ErrLarge, impl.ErrLarge, impl.ErrLarge)
	}
	for _, at := range noPlaces(len(nodes)) {
		wantCodes(t, nodes, at, impl.ErrLarge, impl.ErrRange, impl.ErrLarge)
	}
}

// tooLargeStarts are elements whose start is too large: by one byte, by many, by what is escaped, by attributes, by a void one.
func tooLargeStarts(up int64) []impl.Node {
	return []impl.Node{
		sized(up, 161), sized(up, 240), sized(up, 600), element(up, "i", attr("title", strings.Repeat("\"", 26))), element(up, "i", attr("title", strings.Repeat("\x00", 155))), element(up, "p", manyAttrs(20)...),
		element(up, "img", attr("src", strings.Repeat("&", 40))), element(up, "br", attr("a", strings.Repeat("x", 80)), attr("b", strings.Repeat("y", 80))),
	}
}

// An element with a code ahead of a node, behind it, around it and in it: each keeps every place of the tree from an answer.
func TestStartsThatAreTooLargeAnywhere(t *testing.T) {
	for _, large := range tooLargeStarts(-1) {
		in := large
		in.Up = 0
		wantNoPlaceWritten(t, nodesOf(large))
		wantNoPlaceWritten(t, nodesOf(large, textNode(-1, "x")))
		wantNoPlaceWritten(t, nodesOf(textNode(-1, "x"), large))
		wantNoPlaceWritten(t, nodesOf(large, element(-1, "b"), textNode(1, "x"), textNode(-1, "y")))
		wantNoPlaceWritten(t, nodesOf(element(-1, "b"), textNode(0, "x"), textNode(-1, "y"), large))
		wantNoPlaceWritten(t, nodesOf(element(-1, "b"), in, textNode(0, "x"), element(-1, "i"), textNode(3, "y")))
		wantNoPlaceWritten(t, nodesOf(element(-1, "b"), element(0, "i"), textNode(1, "x"), in, textNode(-1, "y")))
		wantNoPlaceWritten(t, append(flatNodes(59), large))
		wantNoPlaceWritten(t, append(nodesOf(large), flatNodes(59)...))
		wantNoPlaceWritten(t, nodesOf(large, element(-1, "br"), large))
		if !impl.IsVoid(large.Tag) {
			wantNoPlaceWritten(t, nodesOf(large, textNode(0, "x")))
			wantNoPlaceWritten(t, nodesOf(large, element(0, "b"), textNode(1, "x"), element(-1, "br")))
			wantNoPlaceWritten(t, nodesOf(element(-1, "b"), in, element(1, "i"), textNode(2, "x"), textNode(-1, "y")))
		}
	}
}

// A start of 160 bytes is not too large: beside it every node has its text.
func TestStartsThatAreJustNotTooLarge(t *testing.T) {
	nodes := nodesOf(sized(-1, 160), textNode(-1, "x"), sized(-1, 160), element(2, "b"), textNode(3, "y"), sized(-1, 160))
	wantNodeText(t, nodes, 1, "x")
	wantNodeText(t, nodes, 3, "<b>y</b>")
	wantNodeText(t, nodes, 4, "y")
	wantCodes(t, nodes, 1, impl.ErrLarge, impl.OK, impl.ErrLarge)
	for _, at := range []int{0, 2, 5} {
		large := behindNodes(nodes)
		large[at] = sized(-1, 161)
		wantNoPlaceWritten(t, large)
	}
}

// A node that is short in a tree that is too large has its text.
func TestShortNodesOfLargeTrees(t *testing.T) {
	x := strings.Repeat("x", 240)
	nodes := nodesOf(textNode(-1, x), element(-1, "p"), textNode(1, "a"), element(1, "br"), textNode(-1, x), sized(-1, 160))
	for at, text := range []string{x, "<p>a<br></p>", "a", "<br>", x} {
		wantNodeText(t, nodes, int64(at), text)
		wantCodes(t, nodes, int64(at), impl.ErrLarge, impl.OK, impl.ErrLarge)
	}
	flat := flatNodes(60)
	for at := range flat {
		wantNodeText(t, flat, int64(at), "<i></i>")
		wantSpan(t, flat, int64(at), impl.SpanResult{Code: impl.ErrLarge})
	}
}

// OpenText has each fault of a start, and of two the first one that is asked.
func TestFaultsOfStarts(t *testing.T) {
	long := strings.Repeat("x", 200)
	for _, name := range noNames() {
		wantOpenCode(t, name, nil, impl.ErrText)
		wantOpenCode(t, name, []impl.Attr{attr("a", "x")}, impl.ErrText)
		wantOpenCode(t, name, []impl.Attr{attr("a", ""), attr("a", "")}, impl.ErrText)
		wantOpenCode(t, name, []impl.Attr{attr("a", long)}, impl.ErrText)
		wantOpenCode(t, "b", []impl.Attr{attr(name, "")}, impl.ErrText)
		wantOpenCode(t, "b", []impl.Attr{attr("a", ""), attr(name, ""), attr("a", "")}, impl.ErrText)
		wantOpenCode(t, "b", []impl.Attr{attr("a", ""), attr("a", ""), attr(name, "")}, impl.ErrForm)
		wantOpenCode(t, "b", []impl.Attr{attr("a", long), attr(name, "")}, impl.ErrText)
	}
	wantOpenCode(t, "B", nil, impl.ErrText)
	wantOpenCode(t, "", nil, impl.ErrText)
	wantOpenCode(t, "abcdefghi", nil, impl.ErrText)
	wantOpenCode(t, "b", []impl.Attr{attr("a", "1"), attr("a", "1")}, impl.ErrForm)
	wantOpenCode(t, "b", []impl.Attr{attr("a", "1"), attr("b", ""), attr("a", "2")}, impl.ErrForm)
	wantOpenCode(t, "b", []impl.Attr{attr("a", long), attr("b", ""), attr("a", "2")}, impl.ErrForm)
	wantOpenCode(t, "b", []impl.Attr{attr("a", long)}, impl.ErrLarge)
}

// All that may be a start, and much that may not.
func TestOpeningOfManyStarts(t *testing.T) {
	for _, token := range append(goodTokens(), badTokens()...) {
		wantOpening(t, token.Name, token.Attrs)
	}
	for _, tag := range []string{"a", "br", "img", "abcdefgh", "", "A", "b "} {
		for _, name := range []string{"a", "href", "abcdefgh", "", "A", "a="} {
			for _, value := range tagValues() {
				wantOpening(t, tag, []impl.Attr{attr(name, value)})
				wantOpening(t, tag, []impl.Attr{attr("b", value), attr(name, value)})
			}
		}
	}
}

// wantCodesAlone is wantCodes of what is too large for the test's own ways.
func wantCodesAlone(t *testing.T, nodes []impl.Node, tree int64, node int64) {
	t.Helper()
	for _, at := range noPlaces(len(nodes)) {
		if got := impl.WriteNode(nodes, at); got.Code != node || len(got.Bytes) > 0 {
			t.Errorf("WriteNode of %s, %d: got %d, want %d", briefNodes(nodes), at, got.Code, node)
		}
		wantSpan(t, nodes, at, impl.SpanResult{Code: tree})
	}
	wantTold(t, "WriteTree of "+briefNodes(nodes), impl.WriteTree(nodes), impl.BytesResult{Code: tree})
	wantTold(t, "WriteNode of "+briefNodes(nodes), impl.WriteNode(nodes, 0), impl.BytesResult{Code: tree})
	wantSpan(t, nodes, 0, impl.SpanResult{Code: tree})
}

// P1: nothing panics, whatever it is given.
func TestJunkIsWritten(t *testing.T) {
	for seed := range uint32(3000) {
		wantPlaces(t, junkNodes(int(seed%7), seed), append(oddNumbers(), int64(seed%7)))
	}
	huge := strings.Repeat("b", 1<<20)
	wantCodesAlone(t, nodesOf(element(-1, huge)), impl.ErrText, impl.ErrText)
	wantCodesAlone(t, nodesOf(element(-1, "b", attr(huge, ""))), impl.ErrText, impl.ErrText)
	wantCodesAlone(t, nodesOf(textNode(-1, huge)), impl.ErrForm, impl.ErrForm)
	wantCodesAlone(t, make([]impl.Node, 1<<16), impl.ErrMany, impl.ErrMany)
	wantCodesAlone(t, nodesOf(element(-1, "b", attr("title", huge))), impl.ErrLarge, impl.ErrRange)
	wantCodesAlone(t, nodesOf(element(-1, "b", manyAttrs(20000)...)), impl.ErrLarge, impl.ErrRange)
	for code, attrs := range map[int64][]impl.Attr{impl.ErrLarge: {attr("a", huge)}, impl.ErrText: {attr("a", huge), attr(huge, "")}, impl.ErrForm: {attr("a", huge), attr("a", "")}} {
		if got := impl.OpenText("b", attrs); got != (impl.TextResult{Code: code}) {
			t.Errorf("OpenText of %d attributes: got %+v, want %d", len(attrs), got, code)
		}
	}
	wantOpenCode(t, huge, nil, impl.ErrText)
	wantOpenCode(t, "b", manyAttrs(2000), impl.ErrLarge)
	wantOpenCode(t, "b", append(manyAttrs(2000), attr("aaaa", "")), impl.ErrForm)
}
