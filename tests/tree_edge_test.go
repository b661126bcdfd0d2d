package tests

import (
	"math"
	"strings"
	"testing"

	"loop.example/g00606/impl"
)

func TestPlacesOfNodes(t *testing.T) {
	nodes := nodesOf(element(-1, "p"), textNode(0, "x"), element(-1, "b"))
	none := impl.IntResult{Code: impl.ErrRange}
	wantKids(t, nodes, -1, impl.IntsResult{List: []int64{0, 2}})
	wantKids(t, nodes, 0, impl.IntsResult{List: []int64{1}})
	wantKids(t, nodes, 1, impl.IntsResult{})
	wantKids(t, nodes, 2, impl.IntsResult{})
	wantDepth(t, nodes, 0, impl.IntResult{})
	wantDepth(t, nodes, 1, impl.IntResult{Value: 1})
	wantEnd(t, nodes, 0, impl.IntResult{Value: 2})
	wantEnd(t, nodes, 2, impl.IntResult{Value: 3})
	wantDepth(t, nodes, -1, none)
	wantEnd(t, nodes, -1, none)
	for _, at := range []int64{math.MinInt64, math.MinInt64 + 1, math.MinInt32, -61, -3, -2, 3, 4, 60, 61, math.MaxInt32, 1 << 32, 1<<32 + 1, math.MaxInt64 - 1, math.MaxInt64} {
		wantKids(t, nodes, at, impl.IntsResult{Code: impl.ErrRange})
		wantDepth(t, nodes, at, none)
		wantEnd(t, nodes, at, none)
	}
}

func TestPlacesOfNoNodes(t *testing.T) {
	for _, nodes := range [][]impl.Node{nil, {}, make([]impl.Node, 0, 3)} {
		wantKids(t, nodes, -1, impl.IntsResult{})
		wantTextIn(t, nodes, impl.BytesResult{})
		for _, at := range oddNumbers() {
			if at != -1 {
				wantKids(t, nodes, at, impl.IntsResult{Code: impl.ErrRange})
			}
			wantDepth(t, nodes, at, impl.IntResult{Code: impl.ErrRange})
			wantEnd(t, nodes, at, impl.IntResult{Code: impl.ErrRange})
		}
	}
}

func TestPlacesOfAFullTree(t *testing.T) {
	nodes := append(chainNodes(8), flatNodes(52)...)
	wantEnd(t, nodes, 0, impl.IntResult{Value: 8})
	wantDepth(t, nodes, 7, impl.IntResult{Value: 7})
	wantEnd(t, nodes, 59, impl.IntResult{Value: 60})
	wantEnd(t, nodes, 60, impl.IntResult{Code: impl.ErrRange})
	var all []impl.Node
	for range 59 {
		all = append(all, element(0, "b"))
	}
	wantEnd(t, append(nodesOf(element(-1, "p")), all...), 0, impl.IntResult{Value: 60})
	wantTree(t, append(nodesOf(element(-1, "p")), all...))
}

func TestVoidTags(t *testing.T) {
	for _, tag := range []string{"br", "img"} {
		if !impl.IsVoid(tag) {
			t.Errorf("IsVoid of %q: want true", tag)
		}
	}
	for _, tag := range append(noNames(), "b", "r", "i", "a", "p", "im", "mg", "rb", "gmi", "BR", "Br", "bR", "IMG", "Img", "imG", "brr", "bri", "brimg", "imgs", "imgbr", "hr", "input", "script",
		"br ", " br", "br/", "<br>", "br\x00", "\x00br", "img ", " img", "img\x00", "br,img", "bṙ", "ｂｒ") {
		if impl.IsVoid(tag) {
			t.Errorf("IsVoid of %.20q: want false", tag)
		}
	}
}

func TestTextsInTheirOrder(t *testing.T) {
	wantTextIn(t, nodesOf(element(-1, "p"), element(0, "br"), element(-1, "b", attr("a", "value"))), impl.BytesResult{})
	wantTextIn(t, nodesOf(textNode(-1, "x")), impl.BytesResult{Bytes: []byte("x")})
	wantTextIn(t, nodesOf(textNode(-1, "\x00"), element(-1, "b"), textNode(1, "<&\""), textNode(-1, "\xff")), impl.BytesResult{Bytes: []byte("\x00<&\"\xff")})
	deep := chainNodes(7)
	deep = append(deep, textNode(6, "g"), textNode(5, "f"), textNode(4, "e"), textNode(3, "d"), textNode(2, "c"), textNode(1, "b"), textNode(0, "a"), textNode(-1, "-"))
	wantTextIn(t, deep, impl.BytesResult{Bytes: []byte("gfedcba-")})
	wantTree(t, deep)
}

// textsOfSizes are texts of so many bytes, each one in an element of its own.
func textsOfSizes(sizes ...int) []impl.Node {
	var nodes []impl.Node
	for i, size := range sizes {
		nodes = append(nodes, element(-1, "b"), textNode(int64(2*i), strings.Repeat(string([]byte{byte('a' + i)}), size)))
	}
	return nodes
}

func TestSizesOfTextsInATree(t *testing.T) {
	for _, c := range []struct {
		sizes []int
		code  int64
	}{
		{[]int{240, 240, 240, 240, 240, 240, 240, 240}, impl.OK},
		{[]int{240, 240, 240, 240, 240, 240, 240, 240, 79}, impl.OK},
		{[]int{240, 240, 240, 240, 240, 240, 240, 240, 80}, impl.OK},
		{[]int{240, 240, 240, 240, 240, 240, 240, 240, 81}, impl.ErrLarge},
		{[]int{240, 240, 240, 240, 240, 240, 240, 240, 80, 1}, impl.ErrLarge},
		{[]int{80, 240, 240, 240, 240, 240, 240, 240, 240}, impl.OK},
		{[]int{81, 240, 240, 240, 240, 240, 240, 240, 240}, impl.ErrLarge},
		{[]int{200, 200, 200, 200, 200, 200, 200, 200, 200, 200}, impl.OK},
		{[]int{200, 200, 200, 200, 200, 200, 200, 200, 200, 200, 1}, impl.ErrLarge},
		{[]int{240, 240, 240, 240, 240, 240, 240, 240, 240, 240, 240, 240, 240, 240, 240, 240, 240, 240, 240, 240, 240, 240, 240, 240, 240, 240, 240, 240, 240, 240}, impl.ErrLarge},
	} {
		nodes := textsOfSizes(c.sizes...)
		if got := impl.TextIn(nodes); got.Code != c.code {
			t.Errorf("TextIn of texts of %v: got %d, want %d", c.sizes, got.Code, c.code)
		}
		wantTextIn(t, nodes, textsOf(nodes))
		// A text that is too large is no fault of the tree.
		wantTree(t, nodes)
	}
	// A fault counts ahead of that.
	wantTextIn(t, append(textsOfSizes(240, 240, 240, 240, 240, 240, 240, 240, 240), element(-1, "B")), impl.BytesResult{Code: impl.ErrText})
}

func wantSameTrees(t *testing.T, a []impl.Node, b []impl.Node, want bool) {
	t.Helper()
	if impl.SameTrees(a, b) != want || impl.SameTrees(b, a) != want {
		t.Errorf("SameTrees of %s and %s: want %v", briefNodes(a), briefNodes(b), want)
	}
}

// changed is one tree, made anew, with a change.
func changed(change func(n []impl.Node) []impl.Node) []impl.Node {
	return change(nodesOf(
		element(-1, "p"), element(0, "a", attr("href", "x"), attr("title", "y")), textNode(1, "text"), element(0, "br"), textNode(0, "t")))
}

// differing are a tree, and those that differ from it in one thing each.
func differing() [][]impl.Node {
	return [][]impl.Node{
		changed(func(n []impl.Node) []impl.Node { return n }),
		changed(func(n []impl.Node) []impl.Node { n[1].Up = -1; return n }),
		changed(func(n []impl.Node) []impl.Node { n[4].Up = -1; return n }),
		changed(func(n []impl.Node) []impl.Node { n[4].Up = math.MinInt64; return n }),
		changed(func(n []impl.Node) []impl.Node { n[4].Up = 1 << 32; return n }),
		changed(func(n []impl.Node) []impl.Node { n[0].Tag = "b"; return n }),
		changed(func(n []impl.Node) []impl.Node { n[3].Tag = "img"; return n }),
		changed(func(n []impl.Node) []impl.Node { n[3].Tag = "BR"; return n }),
		changed(func(n []impl.Node) []impl.Node { n[3].Tag = ""; return n }),
		changed(func(n []impl.Node) []impl.Node { n[4].Tag = "b"; return n }),
		changed(func(n []impl.Node) []impl.Node { n[1].Attrs[0].Name = "src"; return n }),
		changed(func(n []impl.Node) []impl.Node { n[1].Attrs[1].Name = "href"; return n }),
		changed(func(n []impl.Node) []impl.Node { n[1].Attrs[0].Value = []byte("z"); return n }),
		changed(func(n []impl.Node) []impl.Node { n[1].Attrs[1].Value = nil; return n }),
		changed(func(n []impl.Node) []impl.Node { n[1].Attrs[1].Value = []byte("y "); return n }),
		changed(func(n []impl.Node) []impl.Node { n[1].Attrs = append(n[1].Attrs[1:2:2], n[1].Attrs[0]); return n }),
		changed(func(n []impl.Node) []impl.Node { n[1].Attrs = n[1].Attrs[:1]; return n }),
		changed(func(n []impl.Node) []impl.Node { n[1].Attrs = nil; return n }),
		changed(func(n []impl.Node) []impl.Node { n[1].Attrs = append(n[1].Attrs, attr("", "")); return n }),
		changed(func(n []impl.Node) []impl.Node { n[4].Attrs = []impl.Attr{attr("a", "")}; return n }),
		changed(func(n []impl.Node) []impl.Node { n[2].Text = []byte("tex"); return n }),
		changed(func(n []impl.Node) []impl.Node { n[2].Text = []byte("Text"); return n }),
		changed(func(n []impl.Node) []impl.Node { n[2].Text = []byte("text\x00"); return n }),
		changed(func(n []impl.Node) []impl.Node { n[4].Text = nil; return n }),
		changed(func(n []impl.Node) []impl.Node { n[0].Text = []byte("x"); return n }),
		changed(func(n []impl.Node) []impl.Node { return n[:4] }),
		changed(func(n []impl.Node) []impl.Node { return n[1:] }),
		changed(func(n []impl.Node) []impl.Node { return append(n, n[4]) }),
		changed(func(n []impl.Node) []impl.Node { return append(n, impl.Node{}) }),
		changed(func(n []impl.Node) []impl.Node { n[3], n[4] = n[4], n[3]; return n }),
		changed(func(n []impl.Node) []impl.Node { return nil }),
	}
}

func TestSameTreesAsksForAll(t *testing.T) {
	again := differing()
	for i, a := range differing() {
		for j, b := range again {
			wantSameTrees(t, a, b, i == j)
		}
	}
}

func TestSameTreesOfManyShapes(t *testing.T) {
	var trees [][]impl.Node
	eachTree(nodesOf(element(0, "b"), textNode(0, "x")), 4, func(nodes []impl.Node) {
		trees = append(trees, behindNodes(nodes))
	})
	for i, a := range trees {
		for j, b := range trees {
			wantSameTrees(t, a, b, i == j)
		}
	}
	// More nodes than a tree has are held against each other, too.
	wantSameTrees(t, flatNodes(1000), flatNodes(1000), true)
	wantSameTrees(t, flatNodes(1000), flatNodes(1001), false)
	wantSameTrees(t, append(flatNodes(1000), textNode(5, "x")), append(flatNodes(1000), textNode(6, "x")), false)
}

// A fault does not matter: what is the same is so.
func TestSameTreesOfNodesWithAFault(t *testing.T) {
	var bad []impl.Node
	for _, code := range []int64{impl.ErrForm, impl.ErrText} {
		bad = append(bad, wrongMarks(-1)[code]...)
	}
	for _, a := range bad {
		wantSameTrees(t, nodesOf(a), nodesOf(a), true)
		for _, b := range bad[:40] {
			wantSameTrees(t, nodesOf(a), nodesOf(b), shownNode(a) == shownNode(b))
		}
	}
	for seed := range uint32(60) {
		for other := range uint32(60) {
			a, b := junkNodes(int(seed%3), seed), junkNodes(int(other%3), other)
			wantSameTrees(t, a, b, shownNodes(a) == shownNodes(b))
		}
	}
}
