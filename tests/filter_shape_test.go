package tests

import (
	"testing"

	"loop.example/g00606/impl"
)

// filterMarks are nodes of every kind that a filter tells apart, their Up still to be chosen.
func filterMarks() []impl.Node {
	return nodesOf(
		element(0, "p"), element(0, "p", attr("title", "t")), element(0, "b"), element(0, "b", attr("width", "1.50"), attr("onload", "x")), element(0, "i"), element(0, "u"), element(0, "div", attr("title", "t")),
		element(0, "a", attrsFrom("href", "http:x", "title", "y", "width", "2")...), element(0, "a", attr("href", "js:x")), element(0, "script"), element(0, "style"), element(0, "br"), element(0, "img", attr("src", "/x")),
		textNode(0, "x"), textNode(0, "yz"), textNode(0, "<b>"), textNode(0, string(filled(60))), textNode(0, "w"),
	)
}

// filterTree is a tree of at most n nodes by chance: a great lean makes it deep, a small one flat.
func filterTree(n int, lean uint32, seed uint32) []impl.Node {
	marks := filterMarks()
	var nodes []impl.Node
	for range 3 * n {
		seed = seed*1664525 + 1013904223
		one := marks[int(seed>>16)%len(marks)]
		seed = seed*1664525 + 1013904223
		up := int64(len(nodes)) - 1
		for up >= 0 && (seed>>8)%16 >= lean {
			up = nodes[up].Up
			seed = seed*1664525 + 1013904223
		}
		one.Up = up
		nodes = append(nodes, one)
		if nodeFaultOf(nodes, len(nodes)-1) != impl.OK {
			nodes = nodes[:len(nodes)-1]
		}
		if len(nodes) == n {
			break
		}
	}
	return nodes
}

func filterPolicies() []impl.Policy {
	return []impl.Policy{
		{}, openPolicy(), policyOf("b p", "", ""), policyOf("b", "title", ""), policyOf("p", "width", ""), policyOf("b i p script style u", "title", ""),
		policyOf("a br p", "href onload width", "http js"), policyOf("b br i img", "src", ""), policyOf("p b", "", ""), policyOf("div script u", "", ""),
	}
}

// P10: every small tree, by policies that let in more and less of it.
func TestSmallTreesAreFiltered(t *testing.T) {
	policies := []impl.Policy{{}, policyOf("b p", "", ""), policyOf("p", "", ""), policyOf("b u", "", "")}
	tell := func(nodes []impl.Node) {
		for _, p := range policies {
			wantFiltered(t, p, nodes)
		}
	}
	eachTree(nodesOf(element(0, "p"), element(0, "b"), element(0, "u"), element(0, "script"), textNode(0, "x")), 4, tell)
	eachTree(nodesOf(element(0, "p"), element(0, "u"), textNode(0, "x")), 5, tell)
	eachTree(filterMarks(), 2, tell)
}

// P10: every way down of what may be, may not be, and is a p, with a text at its end.
func TestChainsAreFiltered(t *testing.T) {
	p := policyOf("b p", "", "")
	wordsUpTo("bpu", 8, func(tags string) {
		var nodes []impl.Node
		for i := range tags {
			nodes = append(nodes, element(int64(i)-1, tags[i:i+1]))
		}
		wantFiltered(t, p, nodes)
		if len(nodes) < impl.MaxDepth {
			wantFiltered(t, p, append(nodes, textNode(int64(len(nodes))-1, "x")))
		}
	})
}

// P10: trees of every size by chance, deep ones and flat ones, by policies of all kinds.
func TestTreesOfManyShapesAreFiltered(t *testing.T) {
	policies := append(filterPolicies(), policiesOfAllKinds()...)
	kept, large := 0, 0
	for seed := range uint32(4000) {
		nodes := filterTree(int(seed%61), 3+seed%13, seed*2654435761)
		p := policies[int(seed)%len(policies)]
		if seed%2 == 0 {
			p = filterPolicies()[int(seed/2)%len(filterPolicies())]
		}
		got := wantFiltered(t, p, nodes)
		if got.Code == impl.ErrLarge {
			large++
		}
		if len(got.Nodes) > 0 {
			kept++
		}
	}
	if kept < 1000 || large < 20 {
		t.Errorf("of 4000 trees something is kept of %d, and %d are too large: that says too little", kept, large)
	}
	eachShape(func(nodes []impl.Node) {
		wantFiltered(t, policyOf("b br p", "", ""), nodes)
	})
}

// P10: what is allowed is kept, as it is here by a policy that lets in all that another one did.
func TestWhatIsAllowedIsKept(t *testing.T) {
	allowed := 0
	for seed := range uint32(1500) {
		nodes := filterTree(int(seed%41), 3+seed%13, seed*40503)
		for _, p := range filterPolicies()[2:4] {
			kept := impl.FilterTree(p, nodes).Nodes
			if !impl.IsAllowed(openPolicy(), kept) {
				t.Errorf("%s: that is not allowed by a policy that lets in more", briefFilter(p, kept))
			}
			wantKept(t, openPolicy(), kept, kept...)
			if len(kept) > 5 {
				allowed++
			}
		}
	}
	if allowed < 300 {
		t.Errorf("only %d trees are allowed that have some nodes: that says too little", allowed)
	}
}

// P10: from a text with wrong marks on.
func TestTextsAreFiltered(t *testing.T) {
	for seed := range uint32(1500) {
		parsed := impl.ParseText([]byte(buildText(int(seed%40), seed*97)))
		if parsed.Code == impl.OK {
			wantFiltered(t, filterPolicies()[int(seed)%len(filterPolicies())], parsed.Nodes)
		}
	}
}

// The words of the stage itself, told whole.
func TestAFilterThatIsTold(t *testing.T) {
	p := policyOf("b p", "", "")
	wantKeptText(t, p, "<p>a<u>b</u>c<script>d</script></p><b>e</b>", element(-1, "p"), textNode(0, "abc"), element(-1, "b"), textNode(2, "e"))
	wantKeptText(t, p, "a<p title=\"x\">b<b onload=\"y\">c</b></p><style>d</style>e", textNode(-1, "a"), element(-1, "p"), textNode(1, "b"), element(1, "b"), textNode(3, "c"), textNode(-1, "e"))
	wantKeptText(t, impl.Policy{}, "<p>a<b>b</b></p><br>c<script>d</script><i>e</i>", textNode(-1, "abce"))
}
