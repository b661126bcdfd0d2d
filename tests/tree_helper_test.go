package tests

import (
	"fmt"
	"slices"
	"strings"
	"testing"

	"loop.example/g00606/impl"
)

func element(up int64, tag string, attrs ...impl.Attr) impl.Node {
	return impl.Node{Up: up, Tag: tag, Attrs: attrs}
}

func textNode(up int64, text string) impl.Node {
	return impl.Node{Up: up, Text: []byte(text)}
}

func nodesOf(nodes ...impl.Node) []impl.Node {
	return nodes
}

// behindNodes is nodes with more behind them, in memory of their own.
func behindNodes(nodes []impl.Node, more ...impl.Node) []impl.Node {
	return append(append([]impl.Node{}, nodes...), more...)
}

// chainNodes are n elements, each one in the one ahead.
func chainNodes(n int) []impl.Node {
	var nodes []impl.Node
	for i := range n {
		nodes = append(nodes, element(int64(i)-1, "b"))
	}
	return nodes
}

// flatNodes are n elements that are in none.
func flatNodes(n int) []impl.Node {
	return slices.Repeat(nodesOf(element(-1, "i")), n)
}

// shownNode tells all of a node, nil and an empty list alike.
func shownNode(n impl.Node) string {
	var text strings.Builder
	fmt.Fprintf(&text, "%d %q", n.Up, n.Tag)
	for _, a := range n.Attrs {
		fmt.Fprintf(&text, " %q=%q", a.Name, a.Value)
	}
	fmt.Fprintf(&text, " %q", n.Text)
	return text.String()
}

func shownNodes(nodes []impl.Node) string {
	var text strings.Builder
	for _, n := range nodes {
		text.WriteString("{" + shownNode(n) + "} ")
	}
	return text.String()
}

// briefNodes is shownNodes, but of nodes that may be very many, or very large.
func briefNodes(nodes []impl.Node) string {
	return fmt.Sprintf("%d nodes: %.400s", len(nodes), shownNodes(nodes[:min(len(nodes), 60)]))
}

// isIn is the document's rule 8, of a place whose Up, and theirs, are right.
func isIn(nodes []impl.Node, at int, other int) bool {
	up := int(nodes[at].Up)
	return up >= 0 && (up == other || isIn(nodes, up, other))
}

func depthIn(nodes []impl.Node, at int) int {
	depth := 0
	for other := range at {
		if isIn(nodes, at, other) {
			depth++
		}
	}
	return depth
}

// mayBeUp tells whether Up of the node at a place is as the document asks, where all ahead is right.
func mayBeUp(nodes []impl.Node, at int) bool {
	up := nodes[at].Up
	if up == -1 {
		return true
	}
	return up >= 0 && up < int64(at) && (up == int64(at)-1 || isIn(nodes, at-1, int(up)))
}

// aheadInUp is the place of the last node ahead that has the same Up, -1 if there is none.
func aheadInUp(nodes []impl.Node, at int) int {
	for other := at - 1; other >= 0; other-- {
		if nodes[other].Up == nodes[at].Up {
			return other
		}
	}
	return -1
}

func isTextNode(n impl.Node) bool {
	return n.Tag == "" && len(n.Attrs) == 0 && len(n.Text) >= 1 && len(n.Text) <= 240
}

// nodeFaultOf is the document's codes of one node, in their order, where all ahead is right.
func nodeFaultOf(nodes []impl.Node, at int) int64 {
	n := nodes[at]
	isElement := n.Tag != "" && len(n.Text) == 0
	if !isElement && !isTextNode(n) {
		return impl.ErrForm
	}
	if isElement && faultOf(start(n.Tag, n.Attrs...)) != impl.OK {
		return faultOf(start(n.Tag, n.Attrs...))
	}
	if !mayBeUp(nodes, at) {
		return impl.ErrRange
	}
	if n.Up >= 0 && slices.Contains([]string{"", "br", "img"}, nodes[n.Up].Tag) {
		return impl.ErrForm
	}
	if ahead := aheadInUp(nodes, at); ahead >= 0 && isTextNode(n) && isTextNode(nodes[ahead]) {
		return impl.ErrForm
	}
	if depthIn(nodes, at) >= 8 {
		return impl.ErrMany
	}
	return impl.OK
}

// treeFaultOf is what the document asks of TreeFault.
func treeFaultOf(nodes []impl.Node) int64 {
	if len(nodes) > 60 {
		return impl.ErrMany
	}
	for at := range nodes {
		if code := nodeFaultOf(nodes, at); code != impl.OK {
			return code
		}
	}
	return impl.OK
}

// placesToAsk are all places, those beside them, and numbers far away.
func placesToAsk(nodes []impl.Node) []int64 {
	places := oddNumbers()
	for at := range len(nodes) + 3 {
		places = append(places, int64(at)-2, 1<<32+int64(at))
	}
	return places
}

func wantKids(t *testing.T, nodes []impl.Node, at int64, want impl.IntsResult) {
	t.Helper()
	if got := impl.KidsOf(nodes, at); got.Code != want.Code || !slices.Equal(got.List, want.List) {
		t.Errorf("KidsOf of %s, %d: got %+v, want %+v", briefNodes(nodes), at, got, want)
	}
}

func wantDepth(t *testing.T, nodes []impl.Node, at int64, want impl.IntResult) {
	t.Helper()
	if got := impl.DepthOf(nodes, at); got != want {
		t.Errorf("DepthOf of %s, %d: got %+v, want %+v", briefNodes(nodes), at, got, want)
	}
}

func wantEnd(t *testing.T, nodes []impl.Node, at int64, want impl.IntResult) {
	t.Helper()
	if got := impl.EndOf(nodes, at); got != want {
		t.Errorf("EndOf of %s, %d: got %+v, want %+v", briefNodes(nodes), at, got, want)
	}
}

func wantTextIn(t *testing.T, nodes []impl.Node, want impl.BytesResult) {
	t.Helper()
	if got := impl.TextIn(nodes); got.Code != want.Code || string(got.Bytes) != string(want.Bytes) {
		t.Errorf("TextIn of %s: got %d, %.80q, want %d, %.80q", briefNodes(nodes), got.Code, got.Bytes, want.Code, want.Bytes)
	}
}

// wantTreeFault holds TreeFault against a code that is told; with one all others tell it, and nothing else.
func wantTreeFault(t *testing.T, nodes []impl.Node, code int64) {
	t.Helper()
	if got := impl.TreeFault(nodes); got != code {
		t.Errorf("TreeFault of %s: got %d, want %d", briefNodes(nodes), got, code)
	}
	if own := treeFaultOf(nodes); own != code {
		t.Errorf("%s: the test's own fault is %d, not %d", briefNodes(nodes), own, code)
	}
	if code == impl.OK {
		return
	}
	wantTextIn(t, nodes, impl.BytesResult{Code: code})
	for _, at := range []int64{-2, -1, 0, int64(len(nodes)) - 1, int64(len(nodes)), 1 << 62, -1 << 63} {
		wantKids(t, nodes, at, impl.IntsResult{Code: code})
		wantDepth(t, nodes, at, impl.IntResult{Code: code})
		wantEnd(t, nodes, at, impl.IntResult{Code: code})
	}
}

// wantTree holds all functions, of a tree without a fault, against the document.
func wantTree(t *testing.T, nodes []impl.Node) {
	t.Helper()
	wantTreeFault(t, nodes, impl.OK)
	for _, at := range placesToAsk(nodes) {
		kids := impl.IntsResult{Code: impl.ErrRange}
		depth, end := impl.IntResult{Code: impl.ErrRange}, impl.IntResult{Code: impl.ErrRange}
		if at >= -1 && at < int64(len(nodes)) {
			kids = impl.IntsResult{}
		}
		if at >= 0 && at < int64(len(nodes)) {
			depth = impl.IntResult{Value: int64(depthIn(nodes, int(at)))}
			end = impl.IntResult{Value: at + 1}
		}
		for other, n := range nodes {
			if kids.Code == impl.OK && n.Up == at {
				kids.List = append(kids.List, int64(other))
			}
			if end.Code == impl.OK && isIn(nodes, other, int(at)) {
				end.Value = int64(other) + 1
			}
		}
		wantKids(t, nodes, at, kids)
		wantDepth(t, nodes, at, depth)
		wantEnd(t, nodes, at, end)
	}
	wantTextIn(t, nodes, textsOf(nodes))
}

// textsOf is what the document asks of TextIn, where there is no fault.
func textsOf(nodes []impl.Node) impl.BytesResult {
	text := ""
	for _, n := range nodes {
		text += string(n.Text)
	}
	if len(text) > 2000 {
		return impl.BytesResult{Code: impl.ErrLarge}
	}
	return impl.BytesResult{Bytes: []byte(text)}
}
