package tests

import (
	"fmt"
	"slices"
	"testing"

	"loop.example/g00606/impl"
)

// branch is a node that holds those that are in it, so that no place has to be told.
type branch struct {
	node impl.Node
	kids []*branch
}

// grown is what the document asks of a state, with branches in the place of numbers:
// the first open one is the root, which is no node.
type grown struct {
	open  []*branch
	large bool
}

func stateOf(nodes []impl.Node, open ...int64) impl.BuildState {
	return impl.BuildState{Nodes: nodes, Open: open}
}

func largeState() impl.BuildState {
	return impl.BuildState{Large: true}
}

// openTags are elements, each one in the one ahead, all of them open.
func openTags(tags ...string) impl.BuildState {
	var x impl.BuildState
	for i, tag := range tags {
		x.Nodes = append(x.Nodes, element(int64(i)-1, tag))
		x.Open = append(x.Open, int64(i))
	}
	return x
}

// tokensOf are those of a text with marks.
func tokensOf(text string) []impl.Token {
	return impl.LexText([]byte(text)).Tokens
}

// shownBuild tells all of a state, nil and an empty list alike.
func shownBuild(x impl.BuildState) string {
	return fmt.Sprintf("%sopen %v, large %v", shownNodes(x.Nodes), append([]int64{}, x.Open...), x.Large)
}

// briefBuild is shownBuild, but of a state that may be very large.
func briefBuild(x impl.BuildState) string {
	return fmt.Sprintf("%s, open %.80s, large %v", briefNodes(x.Nodes), fmt.Sprint(x.Open[:min(len(x.Open), 20)]), x.Large)
}

// briefTokens is shownAll, but of tokens that may be very many, or very large.
func briefTokens(tokens []impl.Token) string {
	return fmt.Sprintf("%d tokens: %.400s", len(tokens), shownAll(tokens[:min(len(tokens), 60)]))
}

// buildFaultOf is what the document asks of BuildFault, code by code.
func buildFaultOf(x impl.BuildState) int64 {
	if code := treeFaultOf(x.Nodes); code != impl.OK {
		return code
	}
	if x.Large && len(x.Nodes)+len(x.Open) > 0 {
		return impl.ErrForm
	}
	for i, at := range x.Open {
		if at < 0 || at >= int64(len(x.Nodes)) {
			return impl.ErrRange
		}
		ahead := append([]int64{-1}, x.Open...)[i]
		if x.Nodes[at].Up != ahead || slices.Contains([]string{"", "br", "img"}, x.Nodes[at].Tag) {
			return impl.ErrForm
		}
	}
	if len(x.Open) > 7 {
		return impl.ErrMany
	}
	if len(x.Open) == 0 {
		return impl.OK
	}
	inner, last := int(x.Open[len(x.Open)-1]), len(x.Nodes)-1
	if last != inner && !isIn(x.Nodes, last, inner) {
		return impl.ErrForm
	}
	return impl.OK
}

// grownOf is a state without a fault.
func grownOf(x impl.BuildState) *grown {
	root := &branch{}
	var all []*branch
	for _, n := range x.Nodes {
		// A branch's own text is changed as it grows.
		n.Text = append([]byte{}, n.Text...)
		one := &branch{node: n}
		up := root
		if n.Up >= 0 {
			up = all[n.Up]
		}
		up.kids = append(up.kids, one)
		all = append(all, one)
	}
	g := &grown{open: []*branch{root}, large: x.Large}
	for _, at := range x.Open {
		g.open = append(g.open, all[at])
	}
	return g
}

// state tells the branches in the order in which they begin.
func (g *grown) state() impl.BuildState {
	if g.large {
		return largeState()
	}
	var x impl.BuildState
	places := map[*branch]int64{g.open[0]: -1}
	var tell func(up *branch)
	tell = func(up *branch) {
		for _, kid := range up.kids {
			places[kid] = int64(len(x.Nodes))
			n := kid.node
			n.Up = places[up]
			x.Nodes = append(x.Nodes, n)
			tell(kid)
		}
	}
	tell(g.open[0])
	for _, one := range g.open[1:] {
		x.Open = append(x.Open, places[one])
	}
	return x
}

// cut leaves what is ahead of the last open one of that name, if there is one.
func (g *grown) cut(name string) {
	for i := len(g.open) - 1; i >= 1; i-- {
		if g.open[i].node.Tag == name {
			g.open = g.open[:i]
			return
		}
	}
}

// put is what the document asks of a token without a fault.
func (g *grown) put(token impl.Token) {
	if g.large {
		return
	}
	switch token.Kind {
	case impl.TokByte:
		g.putByte(byte(token.Byte))
	case impl.TokEnd:
		g.cut(token.Name)
	case impl.TokStart:
		g.putStart(token)
	}
	x := g.state()
	g.large = len(x.Nodes) > 60 || slices.ContainsFunc(x.Nodes, func(n impl.Node) bool { return len(n.Text) > 240 })
}

func (g *grown) putByte(b byte) {
	inner := g.open[len(g.open)-1]
	if n := len(inner.kids); n > 0 && inner.kids[n-1].node.Tag == "" {
		last := inner.kids[n-1]
		last.node.Text = append(last.node.Text, b)
		return
	}
	inner.kids = append(inner.kids, &branch{node: impl.Node{Text: []byte{b}}})
}

func (g *grown) putStart(token impl.Token) {
	if token.Name == "p" {
		g.cut("p")
	}
	// The root is one of them, so that there are as many as MaxDepth.
	if len(g.open) >= 8 {
		return
	}
	inner := g.open[len(g.open)-1]
	one := &branch{node: impl.Node{Tag: token.Name, Attrs: token.Attrs}}
	inner.kids = append(inner.kids, one)
	if !token.Shut && token.Name != "br" && token.Name != "img" {
		g.open = append(g.open, one)
	}
}

// putOf is what the document asks of PutAll.
func putOf(x impl.BuildState, tokens []impl.Token) impl.BuildResult {
	if code := buildFaultOf(x); code != impl.OK {
		return impl.BuildResult{Code: code}
	}
	if len(tokens) > 300 {
		return impl.BuildResult{Code: impl.ErrMany}
	}
	g := grownOf(x)
	for _, token := range tokens {
		if code := faultOf(token); code != impl.OK {
			return impl.BuildResult{Code: code}
		}
		g.put(token)
	}
	return impl.BuildResult{State: g.state()}
}

// treeOf is what the document asks of BuildTree, by what it asks of PutAll.
func treeOf(put impl.BuildResult) impl.NodesResult {
	switch {
	case put.Code != impl.OK:
		return impl.NodesResult{Code: put.Code}
	case put.State.Large:
		return impl.NodesResult{Code: impl.ErrLarge}
	}
	return impl.NodesResult{Nodes: put.State.Nodes}
}

func wantBuilt(t *testing.T, what string, got impl.BuildResult, want impl.BuildResult) {
	t.Helper()
	if got.Code != want.Code || shownBuild(got.State) != shownBuild(want.State) {
		t.Errorf("%s: got %d, %s, want %d, %s", what, got.Code, briefBuild(got.State), want.Code, briefBuild(want.State))
	}
}

func wantNodes(t *testing.T, what string, got impl.NodesResult, want impl.NodesResult) {
	t.Helper()
	if got.Code != want.Code || shownNodes(got.Nodes) != shownNodes(want.Nodes) {
		t.Errorf("%s: got %d, %s, want %d, %s", what, got.Code, briefNodes(got.Nodes), want.Code, briefNodes(want.Nodes))
	}
}

// wantPutAll holds PutAll, and BuildTree where nothing is there, against the test's own way.
func wantPutAll(t *testing.T, x impl.BuildState, tokens []impl.Token) impl.BuildState {
	t.Helper()
	want := putOf(x, tokens)
	got := impl.PutAll(x, tokens)
	wantBuilt(t, fmt.Sprintf("PutAll of %s with %s", briefBuild(x), briefTokens(tokens)), got, want)
	if len(x.Nodes) == 0 && len(x.Open) == 0 && !x.Large {
		wantNodes(t, "BuildTree of "+briefTokens(tokens), impl.BuildTree(tokens), treeOf(want))
	}
	return got.State
}

// wantPut holds one token, put by itself and as a list, against a state that is told.
func wantPut(t *testing.T, x impl.BuildState, token impl.Token, want impl.BuildState) {
	t.Helper()
	what := fmt.Sprintf("of %s with %s", briefBuild(x), brief(token))
	wantBuilt(t, "PutToken "+what, impl.PutToken(x, token), impl.BuildResult{State: want})
	wantBuilt(t, "PutAll "+what, impl.PutAll(x, list(token)), impl.BuildResult{State: want})
	wantBuilt(t, "the test's own way "+what, putOf(x, list(token)), impl.BuildResult{State: want})
	wantRight(t, want)
}

// wantStays holds tokens, each one by itself, against a state that they do not change.
func wantStays(t *testing.T, x impl.BuildState, tokens ...impl.Token) {
	t.Helper()
	for _, token := range tokens {
		wantPut(t, x, token, x)
	}
}

// wantRight holds a state, by the program and by the test's own way, against having no fault.
func wantRight(t *testing.T, x impl.BuildState) {
	t.Helper()
	if impl.BuildFault(x) != impl.OK || buildFaultOf(x) != impl.OK || impl.TreeFault(x.Nodes) != impl.OK {
		t.Errorf("%s has a fault", briefBuild(x))
	}
}

// wantBuildFault holds BuildFault against a code that is told; with one all others tell it, and nothing else.
func wantBuildFault(t *testing.T, x impl.BuildState, code int64) {
	t.Helper()
	if got := impl.BuildFault(x); got != code {
		t.Errorf("BuildFault of %s: got %d, want %d", briefBuild(x), got, code)
	}
	if own := buildFaultOf(x); own != code {
		t.Errorf("%s: the test's own fault is %d, not %d", briefBuild(x), own, code)
	}
	if code == impl.OK {
		return
	}
	for _, token := range list(note(), byteToken('x'), start("b"), end("b"), impl.Token{}, byteToken(256), start("B")) {
		wantBuilt(t, "PutToken of "+briefBuild(x), impl.PutToken(x, token), impl.BuildResult{Code: code})
		wantBuilt(t, "PutAll of "+briefBuild(x), impl.PutAll(x, list(token)), impl.BuildResult{Code: code})
	}
	for _, tokens := range [][]impl.Token{nil, slices.Repeat(list(note()), 301), make([]impl.Token, 301)} {
		wantBuilt(t, "PutAll of "+briefBuild(x), impl.PutAll(x, tokens), impl.BuildResult{Code: code})
	}
}

// wantParsed holds ParseText against the test's own way, from the bytes on.
func wantParsed(t *testing.T, text string) []impl.Node {
	t.Helper()
	read := wholeText(text)
	want := treeOf(putOf(impl.BuildState{}, joined(read.tokens, asBytes(read.held))))
	got := impl.ParseText([]byte(text))
	wantNodes(t, fmt.Sprintf("ParseText of %q", text), got, want)
	return got.Nodes
}

// wantTreeOf holds ParseText, and the state that its tokens come to, against nodes and places that are told.
func wantTreeOf(t *testing.T, text string, nodes []impl.Node, open ...int64) {
	t.Helper()
	wantParsed(t, text)
	wantNodes(t, fmt.Sprintf("ParseText of %q", text), impl.ParseText([]byte(text)), impl.NodesResult{Nodes: nodes})
	wantBuilt(t, fmt.Sprintf("PutAll of %q", text), impl.PutAll(impl.BuildState{}, tokensOf(text)), impl.BuildResult{State: stateOf(nodes, open...)})
}

// hasPInP tells whether a p is in a p, however far out.
func hasPInP(nodes []impl.Node) bool {
	for at := range nodes {
		for other := range nodes {
			if nodes[at].Tag == "p" && nodes[other].Tag == "p" && isIn(nodes, at, other) {
				return true
			}
		}
	}
	return false
}
