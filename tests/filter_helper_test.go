package tests

import (
	"fmt"
	"slices"
	"testing"

	"loop.example/g00606/impl"
)

func mayTagOf(p impl.Policy, tag string) bool {
	return slices.Contains(tagsThatAreSafe(), tag) && slices.Contains(p.Tags, tag)
}

func isDroppedTag(tag string) bool {
	return tag == "script" || tag == "style"
}

// strain puts what is in from into what that came to, as the document tells it of each
// node; around are the tags of all that this is in there, its own among them.
func strain(p impl.Policy, from *branch, into *branch, around []string) {
	for _, kid := range from.kids {
		tag := kid.node.Tag
		switch {
		case tag == "":
			strainText(into, kid.node.Text)
		case isDroppedTag(tag):
		case !mayTagOf(p, tag), tag == "p" && slices.Contains(around, "p"), len(around) >= 7:
			strain(p, kid, into, around)
		default:
			one := &branch{node: impl.Node{Tag: tag, Attrs: keptAttrsOf(p, kid.node.Attrs).Attrs}}
			into.kids = append(into.kids, one)
			strain(p, kid, one, append(around[:len(around):len(around)], tag))
		}
	}
}

func strainText(into *branch, text []byte) {
	if n := len(into.kids); n > 0 && into.kids[n-1].node.Tag == "" {
		last := into.kids[n-1]
		last.node.Text = append(last.node.Text, text...)
		return
	}
	into.kids = append(into.kids, &branch{node: impl.Node{Text: append([]byte{}, text...)}})
}

// filteredOf is what the document asks of FilterTree.
func filteredOf(p impl.Policy, nodes []impl.Node) impl.NodesResult {
	if code := policyFaultOf(p); code != impl.OK {
		return impl.NodesResult{Code: code}
	}
	if code := treeFaultOf(nodes); code != impl.OK {
		return impl.NodesResult{Code: code}
	}
	root := &branch{}
	strain(p, grownOf(stateOf(nodes)).open[0], root, nil)
	kept := (&grown{open: []*branch{root}}).state().Nodes
	// A text only ever grows, so it may be asked for its size at the end.
	if slices.ContainsFunc(kept, func(n impl.Node) bool { return len(n.Text) > 240 }) {
		return impl.NodesResult{Code: impl.ErrLarge}
	}
	return impl.NodesResult{Nodes: kept}
}

// stableOf is what the document asks of IsStable.
func stableOf(nodes []impl.Node) bool {
	if treeFaultOf(nodes) != impl.OK || hasPInP(nodes) {
		return false
	}
	for at, n := range nodes {
		if n.Tag != "" && depthIn(nodes, at) >= 7 {
			return false
		}
	}
	return true
}

// allowedOf is what the document asks of IsAllowed.
func allowedOf(p impl.Policy, nodes []impl.Node) bool {
	if policyFaultOf(p) != impl.OK || !stableOf(nodes) {
		return false
	}
	for _, n := range nodes {
		if n.Tag != "" && (!mayTagOf(p, n.Tag) || shownAttrs(keptAttrsOf(p, n.Attrs).Attrs) != shownAttrs(n.Attrs)) {
			return false
		}
	}
	return true
}

// countOf is what the document asks of CountTags.
func countOf(nodes []impl.Node, tag string) impl.IntResult {
	if code := treeFaultOf(nodes); code != impl.OK {
		return impl.IntResult{Code: code}
	}
	var count int64
	for _, n := range nodes {
		if len(n.Text) == 0 && n.Tag == tag {
			count++
		}
	}
	return impl.IntResult{Value: count}
}

// textOutside is all text of a tree that is in no dropped element.
func textOutside(nodes []impl.Node) string {
	text := ""
	for at, n := range nodes {
		dropped := false
		for other := range nodes {
			dropped = dropped || isDroppedTag(nodes[other].Tag) && isIn(nodes, at, other)
		}
		if !dropped {
			text += string(n.Text)
		}
	}
	return text
}

func briefFilter(p impl.Policy, nodes []impl.Node) string {
	return fmt.Sprintf("%s by %s", briefNodes(nodes), briefPolicy(p))
}

func wantStable(t *testing.T, nodes []impl.Node, want bool) {
	t.Helper()
	if got := impl.IsStable(nodes); got != want {
		t.Errorf("IsStable of %s: got %v", briefNodes(nodes), got)
	}
	if own := stableOf(nodes); own != want {
		t.Errorf("%s: the test's own answer to IsStable is %v", briefNodes(nodes), own)
	}
}

func wantAllowed(t *testing.T, p impl.Policy, nodes []impl.Node, want bool) {
	t.Helper()
	if got := impl.IsAllowed(p, nodes); got != want {
		t.Errorf("IsAllowed of %s: got %v", briefFilter(p, nodes), got)
	}
	if own := allowedOf(p, nodes); own != want {
		t.Errorf("%s: the test's own answer to IsAllowed is %v", briefFilter(p, nodes), own)
	}
}

func wantCount(t *testing.T, nodes []impl.Node, tag string, want impl.IntResult) {
	t.Helper()
	if got := impl.CountTags(nodes, tag); got != want {
		t.Errorf("CountTags of %s, %.40q: got %+v, want %+v", briefNodes(nodes), tag, got, want)
	}
	if own := countOf(nodes, tag); own != want {
		t.Errorf("%s, %.40q: the test's own count is %+v, not %+v", briefNodes(nodes), tag, own, want)
	}
}

// wantFiltered holds all four functions against the document's words, and asks P10 of what was filtered.
func wantFiltered(t *testing.T, p impl.Policy, nodes []impl.Node) impl.NodesResult {
	t.Helper()
	got := impl.FilterTree(p, nodes)
	wantNodes(t, "FilterTree of "+briefFilter(p, nodes), got, filteredOf(p, nodes))
	wantStable(t, nodes, stableOf(nodes))
	wantAllowed(t, p, nodes, allowedOf(p, nodes))
	if got.Code == impl.OK {
		wantSieved(t, p, nodes, got.Nodes)
	}
	return got
}

// wantSieved asks P10 of what was filtered, without a word on how that is done.
func wantSieved(t *testing.T, p impl.Policy, nodes []impl.Node, kept []impl.Node) {
	t.Helper()
	what := briefFilter(p, nodes)
	if impl.TreeFault(kept) != impl.OK || !impl.IsStable(kept) || !impl.IsAllowed(p, kept) {
		t.Errorf("FilterTree of %s: %s has a fault, or is not stable, or not allowed", what, briefNodes(kept))
	}
	wantNodes(t, "FilterTree of what was filtered of "+what, impl.FilterTree(p, kept), impl.NodesResult{Nodes: kept})
	if impl.IsAllowed(p, nodes) {
		wantNodes(t, "FilterTree of the allowed tree "+what, impl.NodesResult{Nodes: kept}, impl.NodesResult{Nodes: nodes})
	}
	if text := textOutside(kept); text != textOutside(nodes) || text != string(textsOf(kept).Bytes) && len(text) <= 2000 {
		t.Errorf("FilterTree of %s: the text is %.200q, not %.200q", what, text, textOutside(nodes))
	}
	if len(kept) > len(nodes) {
		t.Errorf("FilterTree of %s: there are more nodes than were given", what)
	}
	for _, tag := range append(tagsThatAreSafe(), "script", "style", "u", "") {
		if impl.CountTags(kept, tag).Value > impl.CountTags(nodes, tag).Value {
			t.Errorf("FilterTree of %s: there are more of %q than were given", what, tag)
		}
		if (isDroppedTag(tag) || !mayTagOf(p, tag)) && impl.CountTags(kept, tag).Value > 0 {
			t.Errorf("FilterTree of %s: %q is kept", what, tag)
		}
	}
}

// wantKept holds FilterTree against nodes that are told.
func wantKept(t *testing.T, p impl.Policy, nodes []impl.Node, want ...impl.Node) {
	t.Helper()
	got := wantFiltered(t, p, nodes)
	wantNodes(t, "FilterTree of "+briefFilter(p, nodes), got, impl.NodesResult{Nodes: want})
}

// wantKeptText holds FilterTree of a text with marks against nodes that are told.
func wantKeptText(t *testing.T, p impl.Policy, text string, want ...impl.Node) {
	t.Helper()
	parsed := impl.ParseText([]byte(text))
	if parsed.Code != impl.OK {
		t.Fatalf("ParseText of %q: code %d", text, parsed.Code)
	}
	wantKept(t, p, parsed.Nodes, want...)
}

// wantFilterCode holds FilterTree against a code; beside it there is nothing else.
func wantFilterCode(t *testing.T, p impl.Policy, nodes []impl.Node, code int64) {
	t.Helper()
	got := wantFiltered(t, p, nodes)
	if got.Code != code || len(got.Nodes) > 0 {
		t.Errorf("FilterTree of %s: got %d, %s, want %d alone", briefFilter(p, nodes), got.Code, briefNodes(got.Nodes), code)
	}
}
