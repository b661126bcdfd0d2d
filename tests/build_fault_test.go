package tests

import (
	"fmt"
	"math"
	"slices"
	"strings"
	"testing"

	"loop.example/g00606/impl"
)

// faultyTrees are nodes with a TreeFault, by its code.
func faultyTrees() map[int64][][]impl.Node {
	return map[int64][][]impl.Node{
		impl.ErrMany:  {flatNodes(61), chainNodes(9)},
		impl.ErrForm:  {nodesOf(impl.Node{Up: -1}), nodesOf(textNode(-1, "x"), textNode(-1, "y")), nodesOf(element(-1, "br"), element(0, "b")), nodesOf(element(-1, "b", attr("a", ""), attr("a", "")))},
		impl.ErrText:  {nodesOf(element(-1, "B")), nodesOf(element(-1, "b"), element(0, "b", attr("", "")))},
		impl.ErrRange: {nodesOf(element(0, "b")), nodesOf(element(-1, "b"), element(-1, "b"), element(0, "b")), nodesOf(textNode(math.MinInt64, "x"))},
	}
}

func withLarge(x impl.BuildState) impl.BuildState {
	x.Large = true
	return x
}

func TestTreeFaultIsAskedFirst(t *testing.T) {
	opens := [][]int64{nil, {0}, {-1}, {99}, {math.MaxInt64}, {math.MinInt64}, {0, 0}, {0, 1, 2, 3, 4, 5, 6, 7, 8}}
	for code, trees := range faultyTrees() {
		for _, nodes := range trees {
			for _, open := range opens {
				wantBuildFault(t, stateOf(nodes, open...), code)
				wantBuildFault(t, withLarge(stateOf(nodes, open...)), code)
			}
		}
	}
	for seed := range uint32(300) {
		nodes := junkNodes(int(seed%6), seed)
		wantBuildFault(t, stateOf(nodes), treeFaultOf(nodes))
	}
}

func TestLargeWithSomethingThere(t *testing.T) {
	wantBuildFault(t, largeState(), impl.OK)
	wantBuildFault(t, impl.BuildState{Nodes: []impl.Node{}, Open: []int64{}, Large: true}, impl.OK)
	for _, x := range []impl.BuildState{
		stateOf(nodesOf(textNode(-1, "x"))), stateOf(flatNodes(60)), openTags("b"), openTags("b", "p"), stateOf(chainNodes(8)),
		// What would have a code of its own, but further behind.
		stateOf(nil, 0), stateOf(nil, -1), stateOf(nil, math.MaxInt64), stateOf(chainNodes(2), 5), stateOf(chainNodes(2), -1), stateOf(chainNodes(8), 0, 1, 2, 3, 4, 5, 6, 7),
	} {
		wantBuildFault(t, withLarge(x), impl.ErrForm)
	}
}

func TestPlacesThatAreNone(t *testing.T) {
	for _, nodes := range [][]impl.Node{nil, chainNodes(1), chainNodes(3), flatNodes(60)} {
		n := int64(len(nodes))
		places := append(oddNumbers(), n, n+1, -n, 1<<32+n-1, math.MaxInt64-n)
		for _, at := range places {
			if at >= 0 && at < n {
				continue
			}
			wantBuildFault(t, stateOf(nodes, at), impl.ErrRange)
			wantBuildFault(t, stateOf(nodes, at, at), impl.ErrRange)
			wantBuildFault(t, stateOf(nodes, at, 0), impl.ErrRange)
		}
	}
	nodes := chainNodes(3)
	for _, at := range []int64{-1, 3, 4, math.MinInt64, math.MaxInt64, 1 << 32} {
		wantBuildFault(t, stateOf(nodes, 0, at), impl.ErrRange)
		wantBuildFault(t, stateOf(nodes, 0, 1, 2, at), impl.ErrRange)
		wantBuildFault(t, stateOf(nodes, 0, 1, at, 2), impl.ErrRange)
	}
}

func TestOpenOnesStandInOneAnother(t *testing.T) {
	nodes := nodesOf(element(-1, "b"), element(0, "b"), element(-1, "b"), element(2, "b"), element(3, "b"))
	for _, open := range [][]int64{{}, {2}, {2, 3}, {2, 3, 4}} {
		wantBuildFault(t, stateOf(nodes, open...), impl.OK)
	}
	for _, open := range [][]int64{
		{1}, {3}, {4}, {0, 0}, {2, 2}, {2, 4}, {3, 4}, {0, 2}, {2, 0}, {0, 3}, {2, 1}, {4, 3, 2}, {3, 2}, {2, 3, 3}, {2, 3, 4, 4}, {2, 3, 4, 2}, {2, 2, 3, 4},
		// Open in order, but the last node is in none of them.
		{0}, {0, 1},
	} {
		wantBuildFault(t, stateOf(nodes, open...), impl.ErrForm)
	}
	// Not only the place has to be so, but the Up that it has.
	wantBuildFault(t, stateOf(nodesOf(element(-1, "b"), element(-1, "b")), 0, 1), impl.ErrForm)
	wantBuildFault(t, stateOf(nodesOf(element(-1, "b"), element(0, "b"), element(0, "b")), 0, 1, 2), impl.ErrForm)
}

func TestOpenOnesThatHoldNothing(t *testing.T) {
	for _, leaf := range nodesOf(textNode(-1, "x"), element(-1, "br"), element(-1, "img"), element(-1, "img", attr("src", "x"))) {
		wantBuildFault(t, stateOf(nodesOf(leaf)), impl.OK)
		wantBuildFault(t, stateOf(nodesOf(leaf), 0), impl.ErrForm)
		wantBuildFault(t, stateOf(nodesOf(leaf, element(-1, "b")), 0), impl.ErrForm)
		leaf.Up = 0
		wantBuildFault(t, stateOf(nodesOf(element(-1, "p"), leaf), 0), impl.OK)
		wantBuildFault(t, stateOf(nodesOf(element(-1, "p"), leaf), 0, 1), impl.ErrForm)
		wantBuildFault(t, stateOf(nodesOf(element(-1, "p"), leaf), 1), impl.ErrForm)
		leaf.Up = 6
		wantBuildFault(t, stateOf(append(chainNodes(7), leaf), 0, 1, 2, 3, 4, 5, 6), impl.OK)
		wantBuildFault(t, stateOf(append(chainNodes(7), leaf), 0, 1, 2, 3, 4, 5, 6, 7), impl.ErrForm)
	}
	for _, tag := range []string{"b", "p", "brr", "imgs", "r", "script"} {
		wantBuildFault(t, openTags(tag), impl.OK)
		wantBuildFault(t, openTags("p", tag), impl.OK)
	}
}

// A fault at an earlier place is told ahead of any at a later one, and ahead of what is behind "then".
func TestFaultsOfOpenOnesOneByOne(t *testing.T) {
	nodes := append(chainNodes(8), element(-1, "b"), element(8, "br"))
	wantBuildFault(t, stateOf(nodes, 1, 99), impl.ErrForm)
	wantBuildFault(t, stateOf(nodes, 99, 1), impl.ErrRange)
	wantBuildFault(t, stateOf(nodes, 0, 2, 99), impl.ErrForm)
	wantBuildFault(t, stateOf(nodes, 0, 99, 2), impl.ErrRange)
	wantBuildFault(t, stateOf(nodes, 8, 9, -1), impl.ErrForm)
	wantBuildFault(t, stateOf(nodes, 8, -1, 9), impl.ErrRange)
	wantBuildFault(t, stateOf(nodes, 8, 9), impl.ErrForm)
	// Too many, with a fault of one of them, ahead of and behind the bound.
	eight := []int64{0, 1, 2, 3, 4, 5, 6, 7}
	for at := range eight {
		open := slices.Clone(eight)
		open[at] = 10
		wantBuildFault(t, stateOf(nodes, open...), impl.ErrRange)
		open[at] = 8
		wantBuildFault(t, stateOf(nodes, open...), impl.ErrForm)
	}
	wantBuildFault(t, stateOf(nodes, append(eight, 8)...), impl.ErrForm)
	wantBuildFault(t, stateOf(nodes, append(eight, -1)...), impl.ErrRange)
	wantBuildFault(t, stateOf(nodes, make([]int64, 100000)...), impl.ErrForm)
	// Too many, and the last node is not in the last one.
	wantBuildFault(t, stateOf(nodes, eight...), impl.ErrMany)
	wantBuildFault(t, stateOf(nodes, eight[:7]...), impl.ErrForm)
}

func TestManyOpenOnes(t *testing.T) {
	for n := range 8 {
		wantBuildFault(t, openTags(slices.Repeat([]string{"b"}, n)...), impl.OK)
		wantBuildFault(t, openTags(slices.Repeat([]string{"p"}, n)...), impl.OK)
	}
	wantBuildFault(t, openTags(slices.Repeat([]string{"b"}, 8)...), impl.ErrMany)
	wantBuildFault(t, stateOf(chainNodes(8), 0, 1, 2, 3, 4, 5, 6), impl.OK)
	// Nine in one another are no tree, whether or not they are open.
	wantBuildFault(t, openTags(slices.Repeat([]string{"b"}, 9)...), impl.ErrMany)
	wantBuildFault(t, stateOf(chainNodes(9)), impl.ErrMany)
}

// The last node is the last open one, or in it, however deep; where none is open it is anywhere.
func TestWhereTheLastNodeIs(t *testing.T) {
	for _, c := range []struct {
		nodes []impl.Node
		open  []int64
		code  int64
	}{
		{nodesOf(element(-1, "p")), []int64{0}, impl.OK},
		{nodesOf(element(-1, "p"), textNode(0, "x")), []int64{0}, impl.OK},
		{nodesOf(element(-1, "p"), element(0, "b"), textNode(1, "x")), []int64{0}, impl.OK},
		{nodesOf(element(-1, "p"), element(0, "b"), element(1, "i"), element(2, "br")), []int64{0}, impl.OK},
		{nodesOf(element(-1, "p"), element(0, "b"), element(1, "i"), element(2, "br")), []int64{0, 1}, impl.OK},
		{nodesOf(element(-1, "p"), textNode(-1, "x")), []int64{0}, impl.ErrForm},
		{nodesOf(element(-1, "p"), element(-1, "p")), []int64{0}, impl.ErrForm},
		{nodesOf(element(-1, "p"), element(0, "b"), textNode(0, "x")), []int64{0, 1}, impl.ErrForm},
		{nodesOf(element(-1, "p"), element(0, "b"), textNode(1, "y"), textNode(-1, "x")), []int64{0}, impl.ErrForm},
		{nodesOf(element(-1, "p"), element(0, "b"), element(0, "i"), textNode(2, "x")), []int64{0, 1}, impl.ErrForm},
		{nodesOf(element(-1, "p"), element(0, "b"), element(0, "i"), textNode(2, "x")), []int64{0, 2}, impl.OK},
	} {
		wantBuildFault(t, stateOf(c.nodes, c.open...), c.code)
		wantBuildFault(t, stateOf(c.nodes), impl.OK)
	}
	wantBuildFault(t, impl.BuildState{}, impl.OK)
	wantBuildFault(t, stateOf([]impl.Node{}, []int64{}...), impl.OK)
}

// All short lists of places that may be open, behind trees of many shapes.
func TestEveryShortOpen(t *testing.T) {
	counts := map[int64]int{}
	ask := func(nodes []impl.Node) {
		n := int64(len(nodes))
		for a := int64(-1); a <= n; a++ {
			for b := int64(-1); b <= n; b++ {
				for _, x := range []impl.BuildState{stateOf(nodes, a), stateOf(nodes, a, b), stateOf(nodes, 0, a, b)} {
					code := buildFaultOf(x)
					counts[code]++
					if got := impl.BuildFault(x); got != code {
						t.Errorf("BuildFault of %s: got %d, want %d", briefBuild(x), got, code)
					}
				}
			}
		}
	}
	eachTree(nodesOf(element(0, "b"), element(0, "br"), textNode(0, "x")), 4, ask)
	eachTree(nodesOf(element(0, "b")), 6, ask)
	for seed := range uint32(40) {
		ask(mixedTree(int(seed%20), 4+seed%12, seed))
	}
	for _, code := range []int64{impl.OK, impl.ErrForm, impl.ErrRange} {
		if counts[code] < 100 {
			t.Errorf("only %d states have the code %d", counts[code], code)
		}
	}
}

// All that opensOf tells may be open behind a tree, however large that is.
func TestEveryOpenThatMayBe(t *testing.T) {
	eachShape(func(nodes []impl.Node) {
		opens := opensOf(nodes)
		for _, open := range opens {
			if code := impl.BuildFault(stateOf(nodes, open...)); code != impl.OK {
				t.Errorf("BuildFault of %s: got %d, want 0", briefBuild(stateOf(nodes, open...)), code)
			}
		}
	})
}

// P1: nothing panics, whatever it is given.
func TestJunkStatesHaveAnswers(t *testing.T) {
	odd := oddNumbers()
	tokens := append(badTokens(), goodTokens()...)
	for seed := range uint32(3000) {
		x := stateOf(junkNodes(int(seed%5), seed))
		if seed%3 == 0 {
			x.Nodes = mixedTree(int(seed%20), 4+seed%12, seed)
		}
		for i := range seed % 4 {
			x.Open = append(x.Open, odd[(seed*7+i*11)%uint32(len(odd))], int64(i))
		}
		x.Large = seed%7 == 0
		if seed%5 == 0 {
			x.Nodes = nil
		}
		wantBuildFault(t, x, buildFaultOf(x))
		some := list(tokens[seed*5%uint32(len(tokens))], tokens[seed*3%uint32(len(tokens))])
		wantPutAll(t, x, some)
		wantBuilt(t, fmt.Sprintf("PutToken of %s with %s", briefBuild(x), brief(some[0])), impl.PutToken(x, some[0]), putOf(x, some[:1]))
		if !impl.SameBuilds(x, x) {
			t.Errorf("SameBuilds of %s: not the same as itself", briefBuild(x))
		}
	}
}

// The fault of a token is asked behind that of the state, and ahead of all that it does.
func TestTokensWithAFault(t *testing.T) {
	states := []impl.BuildState{{}, largeState(), openTags("p", "b"), fullTree(), fullTree("b", "b", "b", "b", "b", "b", "b"), stateOf(nodesOf(textNode(-1, strings.Repeat("x", 240))))}
	for _, token := range badTokens() {
		code := faultOf(token)
		for _, x := range states {
			want := impl.BuildResult{Code: code}
			what := fmt.Sprintf("of %s with %s", briefBuild(x), brief(token))
			wantBuilt(t, "PutToken "+what, impl.PutToken(x, token), want)
			wantBuilt(t, "PutAll "+what, impl.PutAll(x, list(token)), want)
		}
		wantNodes(t, "BuildTree of "+brief(token), impl.BuildTree(list(token)), impl.NodesResult{Code: code})
		for faultOfState, trees := range faultyTrees() {
			wantBuilt(t, "PutToken of both with a fault", impl.PutToken(stateOf(trees[0]), token), impl.BuildResult{Code: faultOfState})
		}
		wantBuilt(t, "PutToken of both with a fault", impl.PutToken(withLarge(openTags("b")), token), impl.BuildResult{Code: impl.ErrForm})
		wantBuilt(t, "PutToken of both with a fault", impl.PutToken(stateOf(nil, 0), token), impl.BuildResult{Code: impl.ErrRange})
	}
}

// The first token with a fault is the answer, wherever it stands, even where all is large by then.
func TestFaultsAmongTokens(t *testing.T) {
	bad := []impl.Token{{}, byteToken(256), start("B"), start("b", attr("a", ""), attr("a", ""))}
	codes := []int64{impl.ErrForm, impl.ErrRange, impl.ErrText, impl.ErrForm}
	for _, n := range []int{1, 2, 20, 250, 300} {
		good := append(buildTokens(20, 3), slices.Repeat(list(start("p")), 280)...)[:n]
		for i := range bad {
			for j := range bad {
				for _, at := range []int{0, n / 2, n - 1} {
					tokens := slices.Clone(good)
					tokens[n-1] = bad[j]
					tokens[at] = bad[i]
					want := impl.BuildResult{Code: codes[i]}
					wantBuilt(t, fmt.Sprintf("PutAll of %d with a fault at %d", n, at), impl.PutAll(impl.BuildState{}, tokens), want)
					wantBuilt(t, fmt.Sprintf("PutAll of %d with a fault at %d", n, at), impl.PutAll(largeState(), tokens), want)
					wantBuilt(t, fmt.Sprintf("PutAll of %d with a fault at %d", n, at), impl.PutAll(openTags("p"), tokens), want)
					wantNodes(t, fmt.Sprintf("BuildTree of %d with a fault at %d", n, at), impl.BuildTree(tokens), impl.NodesResult{Code: codes[i]})
				}
			}
		}
	}
}

func TestManyTokens(t *testing.T) {
	many := impl.BuildResult{Code: impl.ErrMany}
	for _, n := range []int{301, 302, 1000, 100000} {
		for _, tokens := range [][]impl.Token{slices.Repeat(list(note()), n), make([]impl.Token, n), append(list(start("B")), slices.Repeat(list(end("b")), n-1)...), append(slices.Repeat(list(end("b")), n-1), byteToken(-1))} {
			wantBuilt(t, fmt.Sprintf("PutAll of %d", n), impl.PutAll(impl.BuildState{}, tokens), many)
			wantBuilt(t, fmt.Sprintf("PutAll of %d", n), impl.PutAll(largeState(), tokens), many)
			wantBuilt(t, fmt.Sprintf("PutAll of %d", n), impl.PutAll(openTags("b", "p"), tokens), many)
			wantNodes(t, fmt.Sprintf("BuildTree of %d", n), impl.BuildTree(tokens), impl.NodesResult{Code: impl.ErrMany})
		}
	}
	// A fault of the state counts ahead of that.
	tokens := make([]impl.Token, 301)
	wantBuilt(t, "PutAll of 301 with a fault", impl.PutAll(stateOf(nil, 0), tokens), impl.BuildResult{Code: impl.ErrRange})
	wantBuilt(t, "PutAll of 301 with a fault", impl.PutAll(withLarge(openTags("b")), tokens), impl.BuildResult{Code: impl.ErrForm})
	wantBuilt(t, "PutAll of 301 with a fault", impl.PutAll(stateOf(nodesOf(element(-1, "B"))), tokens), impl.BuildResult{Code: impl.ErrText})
	for _, n := range []int{299, 300} {
		x := openTags("b", "p")
		wantBuilt(t, fmt.Sprintf("PutAll of %d notes", n), impl.PutAll(x, slices.Repeat(list(note()), n)), impl.BuildResult{State: x})
		wantNodes(t, fmt.Sprintf("BuildTree of %d notes", n), impl.BuildTree(slices.Repeat(list(note()), n)), impl.NodesResult{})
	}
}

func TestTextsWithACode(t *testing.T) {
	for _, n := range []int{241, 242, 300, 301, 2001, 100000} {
		for _, text := range []string{strings.Repeat("x", n), strings.Repeat("<", n), strings.Repeat("<!--->", n)[:n]} {
			want := impl.NodesResult{Code: impl.LexText([]byte(text)).Code}
			if want.Code != impl.ErrLarge {
				t.Errorf("LexText of %d bytes: code %d", n, want.Code)
			}
			wantNodes(t, fmt.Sprintf("ParseText of %d bytes", n), impl.ParseText([]byte(text)), want)
		}
	}
}

// differingBuilds are a state, and those that differ from it in one thing each.
func differingBuilds() []impl.BuildState {
	nodes := func() []impl.Node { return differing()[0] }
	states := []impl.BuildState{
		stateOf(nodes(), 0), stateOf(nodes()), stateOf(nodes(), 1), stateOf(nodes(), 0, 1), stateOf(nodes(), 1, 0), stateOf(nodes(), 0, 0), stateOf(nodes(), -1), stateOf(nodes(), 1<<32), stateOf(nodes(), math.MinInt64), stateOf(nodes(), math.MaxInt64),
		withLarge(stateOf(nodes(), 0)), withLarge(stateOf(nodes())), {}, largeState(), stateOf(nil, 0), withLarge(stateOf(nil, 0)),
	}
	for _, other := range differing()[1:] {
		if len(other) > 0 {
			states = append(states, stateOf(other, 0))
		}
	}
	return states
}

func TestSameBuildsAsksForAll(t *testing.T) {
	again := differingBuilds()
	for i, a := range differingBuilds() {
		for j, b := range again {
			if impl.SameBuilds(a, b) != (i == j) {
				t.Errorf("SameBuilds of %s and %s: want %v", briefBuild(a), briefBuild(b), i == j)
			}
		}
	}
	states := goodBuilds()
	for i, a := range states[:120] {
		for _, b := range states[i:120] {
			if impl.SameBuilds(a, b) != (shownBuild(a) == shownBuild(b)) {
				t.Errorf("SameBuilds of %s and %s: want %v", briefBuild(a), briefBuild(b), shownBuild(a) == shownBuild(b))
			}
		}
	}
}

// nil and an empty list are the same value, in each place of a state.
func TestSameBuildsOfNothing(t *testing.T) {
	var nothing []impl.BuildState
	for _, nodes := range [][]impl.Node{nil, {}, make([]impl.Node, 0, 9)} {
		for _, open := range [][]int64{nil, {}, make([]int64, 0, 9)} {
			nothing = append(nothing, impl.BuildState{Nodes: nodes, Open: open})
		}
	}
	for _, a := range nothing {
		wantRight(t, a)
		wantRight(t, withLarge(a))
		wantPut(t, a, byteToken('x'), stateOf(nodesOf(textNode(-1, "x"))))
		wantPut(t, withLarge(a), byteToken('x'), largeState())
		for _, b := range nothing {
			if !impl.SameBuilds(a, b) || !impl.SameBuilds(withLarge(a), withLarge(b)) || impl.SameBuilds(a, withLarge(b)) {
				t.Errorf("SameBuilds of %#v and %#v: nil and empty are not the same", a, b)
			}
		}
	}
	for _, none := range [][]impl.Token{nil, {}} {
		wantBuilt(t, "PutAll of no tokens", impl.PutAll(impl.BuildState{}, none), impl.BuildResult{})
		wantBuilt(t, "PutAll of no tokens", impl.PutAll(openTags("b"), none), impl.BuildResult{State: openTags("b")})
		wantNodes(t, "BuildTree of no tokens", impl.BuildTree(none), impl.NodesResult{})
	}
	for _, none := range [][]byte{nil, {}} {
		wantNodes(t, "ParseText of nothing", impl.ParseText(none), impl.NodesResult{})
	}
}
