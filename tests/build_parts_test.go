package tests

import (
	"fmt"
	"strings"
	"testing"

	"loop.example/g00606/impl"
)

// buildParts are what texts with wrong marks are made of.
func buildParts() []string {
	return []string{
		"<p>", "<p>", "<p>", "</p>", "<p/>", "<p title=\"x\">", "<b>", "<b>", "</b>", "<b/>", "<i>", "<i>", "</i>", "<a href=\"&lt;\">", "</a>", "<pp>", "</pp>", "<script>", "</script>",
		"<br>", "<br/>", "</br>", "<img src=\"x\"/>", "<img>", "</img>", "<!-- <p> -->", "<!---->", "<!--", "-->", "x", "y", "text", "&lt;", "&#0;", "&", "<", ">", "\"", "</", "<p", "<p x=\"", "\">", "</p", "<P>", "< p>", "</ p>", "\x00", "\xff",
	}
}

// buildText is a text of n parts that has at most MaxText bytes.
func buildText(n int, seed uint32) string {
	text := mixed(buildParts(), n, seed)
	return text[:min(len(text), impl.MaxText)]
}

// buildTokens are n tokens without a fault, of all kinds.
func buildTokens(n int, seed uint32) []impl.Token {
	some := list(
		start("p"), start("p"), start("p", attr("title", "x")), shut("p"), end("p"), start("b"), start("b"), start("b", attr("a", ""), attr("href", "\x00<")), shut("b"), end("b"), start("i"), start("i"), end("i"), start("abcdefgh"), end("abcdefgh"),
		start("br"), shut("img", attr("src", "y")), end("br"), note(), byteToken('x'), byteToken('<'), byteToken(0), byteToken(255),
	)
	var tokens []impl.Token
	for range n {
		seed = seed*1664525 + 1013904223
		tokens = append(tokens, some[int(seed>>16)%len(some)])
	}
	return tokens
}

// opensOf are all lists of places that may be open behind a tree: those that the last
// node is in, and itself, if it may hold others, from the outermost one on.
func opensOf(nodes []impl.Node) [][]int64 {
	var way []int64
	at := int64(len(nodes)) - 1
	if at >= 0 && (nodes[at].Tag == "" || nodes[at].Tag == "br" || nodes[at].Tag == "img") {
		at = nodes[at].Up
	}
	for ; at >= 0; at = nodes[at].Up {
		way = append([]int64{at}, way...)
	}
	opens := [][]int64{nil}
	for n := 1; n <= min(len(way), 7); n++ {
		opens = append(opens, way[:n:n])
	}
	return opens
}

// goodBuilds are states without a fault: of many trees, with all that may be open.
func goodBuilds() []impl.BuildState {
	states := []impl.BuildState{largeState(), openTags("p", "b", "p", "i"), openTags("b", "b", "b", "b", "b", "b", "b"), openTags("p", "p", "p", "p", "p", "p", "p")}
	var trees [][]impl.Node
	for n := range 9 {
		trees = append(trees, chainNodes(n), append(chainNodes(n), flatNodes(60-n)...), append(flatNodes(52-n), element(-1, "p")))
	}
	for seed := range uint32(40) {
		trees = append(trees, mixedTree(int(seed%61), 4+seed%12, seed))
	}
	trees = append(trees, nodesOf(textNode(-1, strings.Repeat("x", 239))), nodesOf(element(-1, "p"), textNode(0, strings.Repeat("x", 240))))
	for _, nodes := range trees {
		for _, open := range opensOf(nodes) {
			states = append(states, stateOf(nodes, open...))
		}
	}
	return states
}

// wantParts holds tokens in two parts, cut at every place, and one by one, against all of them at once.
func wantParts(t *testing.T, x impl.BuildState, tokens []impl.Token) {
	t.Helper()
	all := wantPutAll(t, x, tokens)
	want := shownBuild(all)
	wantRight(t, all)
	single := x
	for at, token := range tokens {
		first := impl.PutAll(x, tokens[:at])
		second := impl.PutAll(first.State, tokens[at:])
		if first.Code != impl.OK || second.Code != impl.OK || shownBuild(second.State) != want || !impl.SameBuilds(second.State, all) {
			t.Errorf("PutAll of %s with %s, cut at %d: got %s, want %s", briefBuild(x), briefTokens(tokens), at, briefBuild(second.State), briefBuild(all))
		}
		wantRight(t, first.State)
		put := impl.PutToken(single, token)
		if put.Code != impl.OK {
			t.Errorf("PutToken of %s with %s: code %d", briefBuild(single), brief(token), put.Code)
		}
		single = put.State
		wantRight(t, single)
	}
	if shownBuild(single) != want || !impl.SameBuilds(single, all) {
		t.Errorf("%s with %s: one by one got %s, want %s", briefBuild(x), briefTokens(tokens), briefBuild(single), briefBuild(all))
	}
}

// P8: tokens in parts build what they build at once, and what is built is right.
func TestTokensInPartsBuildTheSame(t *testing.T) {
	for seed := range uint32(400) {
		wantParts(t, impl.BuildState{}, buildTokens(int(seed%50), seed))
	}
	for i, x := range goodBuilds() {
		wantParts(t, x, buildTokens(2+i%14, uint32(i)))
	}
	wantParts(t, impl.BuildState{}, joined(buildTokens(40, 7), asBytes(strings.Repeat("x", 240))))
	wantParts(t, impl.BuildState{}, asBytes(strings.Repeat("x", 242)))
}

func TestTextsInPartsBuildTheSame(t *testing.T) {
	for _, text := range lexTexts() {
		if len(text) < 80 {
			wantParts(t, impl.BuildState{}, tokensOf(text))
		}
	}
	for seed := range uint32(200) {
		wantParts(t, impl.BuildState{}, tokensOf(buildText(int(seed%24), seed)))
	}
}

// As many tokens as there may be, in parts.
func TestMaxTokensInParts(t *testing.T) {
	for seed := range uint32(6) {
		tokens := append(buildTokens(40, seed), joined(asBytes(strings.Repeat("y", 200)), buildTokens(60, seed))...)
		all := wantPutAll(t, impl.BuildState{}, tokens)
		for cut := range len(tokens) + 1 {
			parts := impl.PutAll(impl.PutAll(impl.BuildState{}, tokens[:cut]).State, tokens[cut:])
			wantBuilt(t, fmt.Sprintf("%s, cut at %d", briefTokens(tokens), cut), parts, impl.BuildResult{State: all})
		}
	}
}

// P8: what is built from any tokens without a fault is right, behind any state.
func TestWhatIsBuiltIsRight(t *testing.T) {
	for seed := range uint32(1500) {
		wantRight(t, wantPutAll(t, impl.BuildState{}, buildTokens(int(seed%301), seed)))
	}
	for i, x := range goodBuilds() {
		wantBuildFault(t, x, impl.OK)
		for _, token := range buildTokens(12, uint32(i)) {
			wantRight(t, wantPutAll(t, x, list(token)))
		}
	}
	for _, token := range goodTokens() {
		wantRight(t, wantPutAll(t, impl.BuildState{}, list(token)))
		wantRight(t, wantPutAll(t, openTags("a", "p", "b"), list(byteToken('x'), token, byteToken('y'))))
	}
}

// All short lists of the tokens that have to do with each other.
func TestShortListsOfTokens(t *testing.T) {
	letters := map[byte]impl.Token{'P': start("p"), 'p': end("p"), 'B': start("b"), 'b': end("b"), 'x': byteToken('x'), 'r': start("br"), 'S': shut("p")}
	wordsUpTo("PpBbxrS", 5, func(word string) {
		var tokens []impl.Token
		for i := range len(word) {
			tokens = append(tokens, letters[word[i]])
		}
		x := wantPutAll(t, impl.BuildState{}, tokens)
		wantRight(t, x)
		if hasPInP(x.Nodes) {
			t.Errorf("%s: a p is in a p", word)
		}
	})
}

// wantTreeOfText holds P8 of one text: it has a tree, if that is not too large, in which no p is in a p.
func wantTreeOfText(t *testing.T, text string) bool {
	t.Helper()
	nodes := wantParsed(t, text)
	code := impl.ParseText([]byte(text)).Code
	if code != impl.OK && code != impl.ErrLarge {
		t.Errorf("ParseText of %q: code %d", text, code)
	}
	if impl.TreeFault(nodes) != impl.OK || treeFaultOf(nodes) != impl.OK {
		t.Errorf("ParseText of %q: %s has a fault", text, briefNodes(nodes))
	}
	if hasPInP(nodes) {
		t.Errorf("ParseText of %q: %s has a p in a p", text, briefNodes(nodes))
	}
	return code == impl.OK
}

// P8: every text has a tree.
func TestEveryTextHasATree(t *testing.T) {
	for _, text := range lexTexts() {
		wantTreeOfText(t, text)
	}
	large, deep := 0, 0
	for seed := range uint32(6000) {
		text := buildText(int(seed%120), seed)
		if !wantTreeOfText(t, text) {
			large++
		}
		for _, n := range impl.ParseText([]byte(text)).Nodes {
			if n.Up >= 0 && n.Tag == "p" {
				deep++
			}
		}
	}
	for seed := range uint32(2000) {
		wantTreeOfText(t, mixedText(int(seed%40), seed))
	}
	if deep < 1000 {
		t.Errorf("only %d p are in something, so that little was asked", deep)
	}
	if large > 3000 {
		t.Errorf("%d texts are too large, so that little was asked", large)
	}
}

// P8: a text that is not too large by its tokens has a tree of as many nodes as they begin.
func TestTextsWithoutMarksAreOneText(t *testing.T) {
	wantTreeOf(t, "", nil)
	for _, text := range []string{"a", "plain text", "\x00\xff", ">", "\"", "a;b", strings.Repeat("x", 240)} {
		wantTreeOf(t, text, nodesOf(textNode(-1, text)))
		wantTreeOf(t, "<b>"+text[:min(len(text), 230)], nodesOf(element(-1, "b"), textNode(0, text[:min(len(text), 230)])), 0)
	}
	for _, text := range []string{"a<b>", "<p>&lt;</p>", "&", "\"<i x=\"y\">"} {
		wantTreeOf(t, escaped(text), nodesOf(textNode(-1, text)))
	}
}

// A text that is told in full, so that not all hangs on the test's own ways.
func TestATextThatIsTold(t *testing.T) {
	text := "a<p title=\"t&gt;\">b<b>c<!-- <p> -->d<br>e</i>f<p>g</b>h</p>i<img src=\"x\" src=\"y\"/>j<i>k</p>&lt;</i"
	nodes := nodesOf(
		textNode(-1, "a"), element(-1, "p", attr("title", "t>")), textNode(1, "b"), element(1, "b"), textNode(3, "cd"), element(3, "br"), textNode(3, "ef"),
		element(-1, "p"), textNode(7, "gh"), textNode(-1, "i"), element(-1, "img", attr("src", "x")), textNode(-1, "j"), element(-1, "i"), textNode(12, "k<</i"),
	)
	wantTreeOf(t, text, nodes, 12)
	wantParts(t, impl.BuildState{}, tokensOf(text))
}
