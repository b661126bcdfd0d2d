package tests

import (
	"slices"
	"strings"
	"testing"

	"loop.example/g00606/impl"
)

// badTrees are nodes with a fault each, by its code: at the first node, and behind others.
func badTrees() map[int64][][]impl.Node {
	rich := nodesOf(element(-1, "p"), textNode(0, "x"), element(0, "b"))
	all := map[int64][][]impl.Node{
		impl.ErrMany:  {flatNodes(61), chainNodes(9), append(chainNodes(8), textNode(7, "x")), slices.Repeat(nodesOf(impl.Node{}), 61)},
		impl.ErrRange: {nodesOf(element(0, "b")), nodesOf(element(-2, "b")), behindNodes(rich, element(3, "b")), behindNodes(rich, textNode(1<<62, "x")), behindNodes(rich, textNode(-1, "x"), element(0, "b"))},
		impl.ErrForm:  {nodesOf(textNode(-1, "x"), textNode(-1, "y")), nodesOf(element(-1, "br"), textNode(0, "x")), behindNodes(rich, textNode(2, "x"), element(3, "b"))},
	}
	for code, list := range wrongMarks(-1) {
		for _, n := range list {
			all[code] = append(all[code], nodesOf(n), behindNodes(rich, n))
		}
	}
	return all
}

// badPolicies are policies with a fault each, by its code, in each of their lists.
func badPolicies() map[int64][]impl.Policy {
	all := map[int64][]impl.Policy{}
	for code, lists := range badLists() {
		for i, words := range lists {
			all[code] = append(all[code], withList(openPolicy(), i%3, words), withList(impl.Policy{}, (i+1)%3, words))
		}
	}
	return all
}

// goodTrees have no fault, but are not all stable, nor allowed.
func goodTrees() [][]impl.Node {
	return [][]impl.Node{
		nil, chainNodes(8), flatNodes(60), nodesOf(textNode(-1, "x")), nodesOf(element(-1, "p"), element(0, "p")),
		nodesOf(element(-1, "script"), textNode(0, "x")), nodesOf(element(-1, "b", attr("onload", "x"))), textsOfSizes(240, 240),
	}
}

func TestFiltersOfTreesWithAFault(t *testing.T) {
	for code, trees := range badTrees() {
		for _, nodes := range trees {
			for _, p := range []impl.Policy{{}, openPolicy(), policyOf("b p script u", "title", "")} {
				wantFilterCode(t, p, nodes, code)
				wantAllowed(t, p, nodes, false)
			}
			wantStable(t, nodes, false)
			for _, tag := range []string{"p", "b", "", "B", "u"} {
				wantCount(t, nodes, tag, impl.IntResult{Code: code})
			}
		}
	}
}

func TestFiltersByPoliciesWithAFault(t *testing.T) {
	for code, policies := range badPolicies() {
		for _, p := range policies {
			for _, nodes := range goodTrees() {
				wantFilterCode(t, p, nodes, code)
				wantAllowed(t, p, nodes, false)
			}
		}
	}
}

// The policy's fault is asked ahead of the tree's, whatever the two are.
func TestOrderOfFilterCodes(t *testing.T) {
	for code, policies := range badPolicies() {
		for _, trees := range badTrees() {
			for i, nodes := range trees {
				p := policies[i%len(policies)]
				wantFilterCode(t, p, nodes, code)
				wantAllowed(t, p, nodes, false)
			}
		}
	}
	two := nodesOf(textNode(-1, "x"), textNode(-1, "y"))
	wantFilterCode(t, policyOf("B", "", ""), two, impl.ErrText)
	wantFilterCode(t, policyOf("b a", "", ""), flatNodes(61), impl.ErrForm)
	wantFilterCode(t, impl.Policy{Schemes: rising(11)}, two, impl.ErrMany)
	wantFilterCode(t, impl.Policy{}, two, impl.ErrForm)
}

// Texts that are too large together are asked for behind all faults.
func TestFaultsAheadOfLargeTexts(t *testing.T) {
	x := strings.Repeat("x", 240)
	large := nodesOf(textNode(-1, x), element(-1, "u"), textNode(1, x))
	wantFilterCode(t, impl.Policy{}, large, impl.ErrLarge)
	wantFilterCode(t, policyOf("", "a a", ""), large, impl.ErrForm)
	wantFilterCode(t, impl.Policy{}, behindNodes(large, element(9, "b")), impl.ErrRange)
	wantFilterCode(t, impl.Policy{}, behindNodes(large, element(-1, "B")), impl.ErrText)
}

// P1: nothing panics, whatever it is given.
func TestJunkIsFiltered(t *testing.T) {
	policies := policiesOfAllKinds()
	for seed := range uint32(3000) {
		nodes := junkNodes(int(seed%7), seed)
		p := policies[int(seed)%len(policies)]
		wantFiltered(t, p, nodes)
		for _, tag := range []string{"", "p", "b", "\xff"} {
			wantCount(t, nodes, tag, countOf(nodes, tag))
		}
	}
	huge := strings.Repeat("b", 1<<20)
	for _, nodes := range [][]impl.Node{nodesOf(element(-1, huge)), nodesOf(textNode(-1, huge)), nodesOf(element(-1, "b", attr("title", huge))), nodesOf(element(-1, "b", manyAttrs(5000)...)), make([]impl.Node, 1<<16)} {
		wantFiltered(t, openPolicy(), nodes)
		wantCount(t, nodes, huge, countOf(nodes, huge))
	}
	wantFiltered(t, impl.Policy{Tags: []string{huge}}, flatNodes(3))
	wantFiltered(t, impl.Policy{Schemes: make([]string, 1<<16)}, flatNodes(3))
}
