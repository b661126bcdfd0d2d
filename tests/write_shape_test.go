package tests

import (
	"strings"
	"testing"

	"loop.example/g00606/impl"
)

// P11: every small tree, of what a reader might read as another one.
func TestSmallTreesAreWritten(t *testing.T) {
	tell := func(nodes []impl.Node) {
		wantWriting(t, nodes)
	}
	eachTree(nodesOf(element(0, "b"), element(0, "p"), element(0, "br"), textNode(0, "x")), 4, tell)
	eachTree(nodesOf(element(0, "b"), textNode(0, "<")), 5, tell)
	eachTree(filterMarks(), 2, tell)
	eachTree(mixedMarks(), 3, tell)
}

// P11: trees of many shapes, most of them small enough for a text.
func TestTreesOfManyShapesAreWritten(t *testing.T) {
	written, large, stable := 0, 0, 0
	for seed := range uint32(2000) {
		nodes := mixedTree(int(seed%31), 4+seed%12, seed*2654435761)
		switch wantWriting(t, nodes).Code {
		case impl.OK:
			written++
			if len(nodes) > 5 && impl.IsStable(nodes) {
				stable++
			}
		case impl.ErrLarge:
			large++
		}
	}
	if written < 500 || large < 250 || stable < 250 {
		t.Errorf("of 2000 trees %d are written, %d are too large, %d are stable and have some nodes: that says too little", written, large, stable)
	}
	eachShape(func(nodes []impl.Node) {
		wantReadAgain(t, nodes)
	})
}

// P11: every way down, of p and others, with a text or a void one at its end.
func TestChainsAreWritten(t *testing.T) {
	wordsUpTo("bp", 8, func(tags string) {
		var nodes []impl.Node
		for i := range tags {
			nodes = append(nodes, element(int64(i)-1, tags[i:i+1]))
		}
		wantWriting(t, nodes)
		if up := int64(len(nodes)) - 1; len(nodes) < impl.MaxDepth {
			wantWriting(t, behindNodes(nodes, textNode(up, "x"), textNode(up/2-1, "y")))
			wantWriting(t, behindNodes(nodes, element(up, "br"), textNode(up, "\"")))
		}
	})
}

// P11: texts and values of bytes that a reader might take for something else.
func TestOddBytesAreWritten(t *testing.T) {
	parts := []string{"<", ">", "&", "\"", "/", "!", "-", "b", "p", " ", "=", ";", "#", "6", "lt", "amp", "\x00", "\n", "\xff", "<b>", "</b>", "<!--", "-->", "&lt;", "&#65;", "<br>"}
	for seed := range uint32(3000) {
		one, two := mixed(parts, int(seed%9)+1, seed), mixed(parts, int(seed/9%9), seed+7)
		wantWriting(t, nodesOf(element(-1, "p", attr("title", two)), textNode(0, one), element(0, "img", attr("a", one), attr("b", two)), textNode(-1, one+two)))
	}
	wordsUpTo("<>&\"/b;-", 4, func(text string) {
		if text != "" {
			wantReadAgain(t, nodesOf(textNode(-1, text), element(-1, "b", attr("a", text)), textNode(1, text)))
		}
	})
}

// P11: what is read of a text is written, and read as the same again.
func TestReadTreesAreWritten(t *testing.T) {
	count := 0
	for seed := range uint32(1500) {
		parsed := impl.ParseText([]byte(buildText(int(seed%40), seed*97)))
		if parsed.Code == impl.OK && wantWriting(t, parsed.Nodes).Code == impl.OK {
			count++
		}
		for _, p := range []impl.Policy{openPolicy(), policyOf("b p", "", "")} {
			kept := impl.FilterTree(p, parsed.Nodes)
			if kept.Code == impl.OK {
				wantReadAgain(t, kept.Nodes)
			}
		}
	}
	if count < 500 {
		t.Errorf("only %d trees are written: that says too little", count)
	}
}

// P11: one text after another of a tree that grows up to the bound, and past it.
func TestGrowingTreesAreWritten(t *testing.T) {
	for _, text := range []string{"x", "\"", "&"} {
		for n := range 61 {
			var nodes []impl.Node
			for at := range n {
				one := element(int64(at%3)-1+int64(at/3*3), "b")
				if at%3 == 0 {
					one = element(-1, "i", attr("a", strings.Repeat(text, at%5)))
				}
				nodes = append(nodes, one)
			}
			wantPlaces(t, nodes, []int64{-1, 0, int64(n) / 2, int64(n) - 1, int64(n)})
			wantReadAgain(t, nodes)
		}
	}
}
