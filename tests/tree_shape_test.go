package tests

import (
	"testing"

	"loop.example/g00606/impl"
)

// eachTree tells every tree of at most n nodes that are of these marks, whatever their Up.
func eachTree(marks []impl.Node, n int, tell func([]impl.Node)) {
	nodes := make([]impl.Node, 0, n)
	var grow func()
	grow = func() {
		tell(nodes)
		if len(nodes) == n {
			return
		}
		for _, one := range marks {
			for up := -1; up < len(nodes); up++ {
				one.Up = int64(up)
				nodes = append(nodes, one)
				if nodeFaultOf(nodes, len(nodes)-1) == impl.OK {
					grow()
				}
				nodes = nodes[:len(nodes)-1]
			}
		}
	}
	grow()
}

// mixedMarks are nodes of all kinds, their Up still to be chosen.
func mixedMarks() []impl.Node {
	return nodesOf(
		element(0, "p"), element(0, "b"), element(0, "abcdefgh"), element(0, "b", attr("a", ""), attr("href", "\x00<")),
		element(0, "br"), element(0, "img", attr("src", "x")), textNode(0, "x"), textNode(0, "<b>&\xff"),
	)
}

// mixedTree is a tree of at most n nodes, chosen by a row of numbers that seed begins:
// a great lean makes it deep, a small one flat.
func mixedTree(n int, lean uint32, seed uint32) []impl.Node {
	marks := mixedMarks()
	var nodes []impl.Node
	for range 4 * n {
		seed = seed*1664525 + 1013904223
		one := marks[int(seed>>16)%len(marks)]
		seed = seed*1664525 + 1013904223
		up := int64(len(nodes)) - 1
		for up >= 0 && (seed>>8)%16 >= lean {
			up = nodes[up].Up
			seed = seed*1664525 + 1013904223
		}
		one.Up = up
		nodes = append(nodes, one)
		if nodeFaultOf(nodes, len(nodes)-1) != impl.OK {
			nodes = nodes[:len(nodes)-1]
		}
		if len(nodes) == n {
			break
		}
	}
	return nodes
}

// eachShape tells trees of many shapes: all small ones, and large ones that are deep, flat, and between.
func eachShape(tell func([]impl.Node)) {
	eachTree(nodesOf(element(0, "b")), 8, tell)
	eachTree(nodesOf(element(0, "b"), element(0, "br"), textNode(0, "x")), 5, tell)
	for seed := range uint32(300) {
		tell(mixedTree(int(seed%61), 4+seed%12, seed))
	}
	for n := range impl.MaxDepth + 1 {
		tell(chainNodes(n))
		tell(append(chainNodes(n), flatNodes(impl.MaxNodes-n)...))
	}
	tell(flatNodes(impl.MaxNodes))
}

// P7: each place is a kid of just one node, or of none.
func wantOneUp(t *testing.T, nodes []impl.Node) {
	t.Helper()
	stands := make([]int, len(nodes))
	for at := int64(-1); at < int64(len(nodes)); at++ {
		kids := impl.KidsOf(nodes, at)
		if kids.Code != impl.OK {
			t.Errorf("KidsOf of %s, %d: code %d", briefNodes(nodes), at, kids.Code)
		}
		last := at
		for _, kid := range kids.List {
			if kid <= last || kid >= int64(len(nodes)) {
				t.Fatalf("KidsOf of %s, %d: %v is not rising within its places", briefNodes(nodes), at, kids.List)
			}
			stands[kid]++
			last = kid
		}
	}
	for at, n := range stands {
		if n != 1 {
			t.Errorf("%s: %d is a kid of %d", briefNodes(nodes), at, n)
		}
	}
}

// P7: what is in a node is what stands from the next place up to its end, and nothing else.
func wantAllBehind(t *testing.T, nodes []impl.Node) {
	t.Helper()
	depths := make([]int64, len(nodes))
	for at := range nodes {
		end := impl.EndOf(nodes, int64(at)).Value
		for other := range nodes {
			in := isIn(nodes, other, at)
			if in {
				depths[other]++
			}
			if in != (other > at && int64(other) < end) {
				t.Errorf("%s: EndOf of %d is %d, but that %d is in it is %v", briefNodes(nodes), at, end, other, in)
			}
		}
	}
	for at, depth := range depths {
		wantDepth(t, nodes, int64(at), impl.IntResult{Value: depth})
	}
}

// P7: the first kid stands right behind its node, each other one where the one ahead ends, and the last one ends where the node does.
func wantKidsSideBySide(t *testing.T, nodes []impl.Node) {
	t.Helper()
	for at := int64(-1); at < int64(len(nodes)); at++ {
		next, end := at+1, int64(len(nodes))
		if at >= 0 {
			end = impl.EndOf(nodes, at).Value
		}
		for _, kid := range impl.KidsOf(nodes, at).List {
			if kid != next {
				t.Errorf("%s: the kid %d of %d does not stand at %d", briefNodes(nodes), kid, at, next)
			}
			next = impl.EndOf(nodes, kid).Value
		}
		if next != end {
			t.Errorf("%s: the kids of %d end at %d, not at %d", briefNodes(nodes), at, next, end)
		}
	}
}

func TestEachNodeIsAKidOfOne(t *testing.T) {
	eachShape(func(nodes []impl.Node) {
		wantOneUp(t, nodes)
	})
}

func TestAllThatIsInANodeStandsBehindIt(t *testing.T) {
	eachShape(func(nodes []impl.Node) {
		wantAllBehind(t, nodes)
		wantKidsSideBySide(t, nodes)
	})
}

func TestTreesOfManyShapes(t *testing.T) {
	count := 0
	eachShape(func(nodes []impl.Node) {
		wantTree(t, nodes)
		if len(nodes) == impl.MaxNodes {
			count++
		}
	})
	if count < 3 {
		t.Errorf("only %d trees are full", count)
	}
}

// A tree that is told in full, so that not all hangs on the test's own ways.
func TestATreeThatIsTold(t *testing.T) {
	nodes := nodesOf(
		element(-1, "p"), textNode(0, "a"), element(0, "b"), textNode(2, "b"), element(2, "i"), textNode(4, "c"), textNode(2, "d"), textNode(0, "e"),
		element(-1, "br"), textNode(-1, "f"), element(-1, "p"), element(10, "img"),
	)
	kids := [][]int64{{0, 8, 9, 10}, {1, 2, 7}, nil, {3, 4, 6}, nil, {5}, nil, nil, nil, nil, nil, {11}, nil}
	depths := []int64{0, 1, 1, 2, 2, 3, 2, 1, 0, 0, 0, 1}
	ends := []int64{8, 2, 7, 4, 6, 6, 7, 8, 9, 10, 12, 12}
	for at := range depths {
		wantKids(t, nodes, int64(at)-1, impl.IntsResult{List: kids[at]})
		wantDepth(t, nodes, int64(at), impl.IntResult{Value: depths[at]})
		wantEnd(t, nodes, int64(at), impl.IntResult{Value: ends[at]})
	}
	wantKids(t, nodes, 11, impl.IntsResult{})
	wantTextIn(t, nodes, impl.BytesResult{Bytes: []byte("abcdef")})
	wantTree(t, nodes)
}
