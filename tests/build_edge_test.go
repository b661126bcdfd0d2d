package tests

import (
	"slices"
	"strings"
	"testing"

	"loop.example/g00606/impl"
)

// A p right in a p: that one is open no more.
func TestAPInAP(t *testing.T) {
	wantTreeOf(t, "<p><p>", nodesOf(element(-1, "p"), element(-1, "p")), 1)
	wantTreeOf(t, "<p>a<p>b", nodesOf(element(-1, "p"), textNode(0, "a"), element(-1, "p"), textNode(2, "b")), 2)
	wantTreeOf(t, "<p title=\"x\">a<p title=\"y\">b", nodesOf(element(-1, "p", attr("title", "x")), textNode(0, "a"), element(-1, "p", attr("title", "y")), textNode(2, "b")), 2)
	wantTreeOf(t, "<p><p><p></p>x", nodesOf(element(-1, "p"), element(-1, "p"), element(-1, "p"), textNode(-1, "x")))
	wantTreeOf(t, "<b><p>a<p>b", nodesOf(element(-1, "b"), element(0, "p"), textNode(1, "a"), element(0, "p"), textNode(3, "b")), 0, 3)
	wantPut(t, openTags("p"), start("p"), stateOf(nodesOf(element(-1, "p"), element(-1, "p")), 1))
	wantPut(t, openTags("p"), shut("p"), stateOf(nodesOf(element(-1, "p"), element(-1, "p"))))
	wantTreeOf(t, "<p>a<p/>b", nodesOf(element(-1, "p"), textNode(0, "a"), element(-1, "p"), textNode(-1, "b")))
}

// A p further in: all between are open no more, but what is further out is.
func TestAPFurtherInAP(t *testing.T) {
	wantTreeOf(t, "<p><b>x<p>y", nodesOf(element(-1, "p"), element(0, "b"), textNode(1, "x"), element(-1, "p"), textNode(3, "y")), 3)
	wantTreeOf(t, "<p><b><i>x<p>y</i>z", nodesOf(element(-1, "p"), element(0, "b"), element(1, "i"), textNode(2, "x"), element(-1, "p"), textNode(4, "yz")), 4)
	wantTreeOf(t, "<a><p><b><i>x<p>y</b>z</a>w", nodesOf(element(-1, "a"), element(0, "p"), element(1, "b"), element(2, "i"), textNode(3, "x"), element(0, "p"), textNode(5, "yz"), textNode(-1, "w")))
	tags := []string{"a", "b", "i", "pp", "ap", "script", "b"}
	for at := range tags {
		given := slices.Clone(tags)
		given[at] = "p"
		x := openTags(given...)
		nodes := behindNodes(x.Nodes, element(int64(at)-1, "p"))
		wantPut(t, x, start("p"), stateOf(nodes, append(x.Open[:at:at], 7)...))
		wantPut(t, x, shut("p"), stateOf(nodes, x.Open[:at]...))
		wantPut(t, x, end("p"), stateOf(x.Nodes, x.Open[:at]...))
	}
}

// Where two are open, the last one is meant.
func TestAPInTwo(t *testing.T) {
	x := openTags("p", "b", "p", "i")
	wantPut(t, x, start("p"), stateOf(behindNodes(x.Nodes, element(1, "p")), 0, 1, 4))
	wantPut(t, x, shut("p"), stateOf(behindNodes(x.Nodes, element(1, "p")), 0, 1))
	x = openTags("p", "p")
	wantPut(t, x, start("p"), stateOf(behindNodes(x.Nodes, element(0, "p")), 0, 2))
	x = openTags("p", "p", "b", "b")
	wantPut(t, x, start("p", attr("a", "b")), stateOf(behindNodes(x.Nodes, element(0, "p", attr("a", "b"))), 0, 4))
	x = openTags("p", "p", "p", "p", "p", "p", "p")
	wantPut(t, x, start("p"), stateOf(behindNodes(x.Nodes, element(5, "p")), 0, 1, 2, 3, 4, 5, 7))
}

// A p that has ended, or was never open, is none that is in the way.
func TestAPBehindAP(t *testing.T) {
	wantTreeOf(t, "<p>a</p><p>b", nodesOf(element(-1, "p"), textNode(0, "a"), element(-1, "p"), textNode(2, "b")), 2)
	wantTreeOf(t, "<p></p><b><p>x", nodesOf(element(-1, "p"), element(-1, "b"), element(1, "p"), textNode(2, "x")), 1, 2)
	wantTreeOf(t, "<b><p></b><i><p>x", nodesOf(element(-1, "b"), element(0, "p"), element(-1, "i"), element(2, "p"), textNode(3, "x")), 2, 3)
	wantTreeOf(t, "<b><p/><i><p>x", nodesOf(element(-1, "b"), element(0, "p"), element(0, "i"), element(2, "p"), textNode(3, "x")), 0, 2, 3)
	wantTreeOf(t, "<b><p>x</p><p>y</p></b>", nodesOf(element(-1, "b"), element(0, "p"), textNode(1, "x"), element(0, "p"), textNode(3, "y")))
	// What is in a p that has ended may be the last node.
	wantPut(t, stateOf(nodesOf(element(-1, "p"), element(0, "b"), element(1, "p")), 0, 1), start("p"), stateOf(nodesOf(element(-1, "p"), element(0, "b"), element(1, "p"), element(-1, "p")), 3))
}

// No other name is as p is, whether it begins like it, or is open already.
func TestOnlyAPEndsAP(t *testing.T) {
	wantTreeOf(t, "<b><b><b>x", nodesOf(element(-1, "b"), element(0, "b"), element(1, "b"), textNode(2, "x")), 0, 1, 2)
	wantTreeOf(t, "<p><pp><p>", nodesOf(element(-1, "p"), element(0, "pp"), element(-1, "p")), 2)
	wantTreeOf(t, "<pp><p><pp>", nodesOf(element(-1, "pp"), element(0, "p"), element(1, "pp")), 0, 1, 2)
	wantTreeOf(t, "<p><br><img>x", nodesOf(element(-1, "p"), element(0, "br"), element(0, "img"), textNode(0, "x")), 0)
	for _, name := range []string{"a", "b", "q", "pp", "pre", "ap", "br", "img", "i", "script"} {
		x := openTags("p", "b")
		want := stateOf(behindNodes(x.Nodes, element(1, name)), 0, 1, 2)
		if name == "br" || name == "img" {
			want.Open = want.Open[:2]
		}
		wantPut(t, x, start(name), want)
	}
}

// depthStarts are starts of all kinds: open ones, void ones and shut ones.
func depthStarts() []impl.Token {
	return list(start("i"), start("b"), start("b", attr("a", "x")), start("p"), start("br"), start("img"), shut("i"), shut("p"), shut("br"), shut("img", attr("src", "x")))
}

func TestStartsInFewAndInMany(t *testing.T) {
	for n := range 8 {
		x := openTags(slices.Repeat([]string{"b"}, n)...)
		for _, token := range depthStarts() {
			want := x
			if n < 7 {
				want = stateOf(behindNodes(x.Nodes, element(int64(n)-1, token.Name, token.Attrs...)), x.Open...)
				if !token.Shut && token.Name != "br" && token.Name != "img" {
					want.Open = append(slices.Clone(x.Open), int64(n))
				}
			}
			wantPut(t, x, token, want)
		}
	}
	// More than that may not be open at all.
	for _, token := range depthStarts() {
		x := openTags(slices.Repeat([]string{"b"}, 8)...)
		wantBuilt(t, "PutToken where eight are open", impl.PutToken(x, token), impl.BuildResult{Code: impl.ErrMany})
	}
}

// A start of p makes room first, and is asked for its depth then.
func TestAPWhereManyAreOpen(t *testing.T) {
	for n := 1; n <= 7; n++ {
		for at := range n {
			tags := slices.Repeat([]string{"b"}, n)
			tags[at] = "p"
			x := openTags(tags...)
			nodes := behindNodes(x.Nodes, element(int64(at)-1, "p"))
			wantPut(t, x, start("p"), stateOf(nodes, append(x.Open[:at:at], int64(n))...))
			wantPut(t, x, shut("p"), stateOf(nodes, x.Open[:at]...))
		}
	}
	wantTreeOf(t, "<b><b><b><b><b><b><b><p>x", append(chainNodes(7), textNode(6, "x")), 0, 1, 2, 3, 4, 5, 6)
	wantTreeOf(t, "<b><b><b><b><b><b><p>x<p>y", append(chainNodes(6), element(5, "p"), textNode(6, "x"), element(5, "p"), textNode(8, "y")), 0, 1, 2, 3, 4, 5, 8)
}

// What is left out leaves nothing: what comes stands in the last open one, and its end is an end as any other one.
func TestBehindAStartThatWasLeftOut(t *testing.T) {
	seven, all := strings.Repeat("<b>", 7), []int64{0, 1, 2, 3, 4, 5, 6}
	wantTreeOf(t, seven+"<i>x", append(chainNodes(7), textNode(6, "x")), all...)
	wantTreeOf(t, seven+"<i>x</i>y", append(chainNodes(7), textNode(6, "xy")), all...)
	wantTreeOf(t, seven+"x<br>y<img>z<i/>w", append(chainNodes(7), textNode(6, "xyzw")), all...)
	wantTreeOf(t, seven+"<b>x</b>y", append(chainNodes(7), textNode(6, "x"), textNode(5, "y")), all[:6]...)
	wantTreeOf(t, seven+"<i><i><i></i></i></i></b>y<i>z", append(chainNodes(7), textNode(5, "y"), element(5, "i"), textNode(8, "z")), 0, 1, 2, 3, 4, 5, 8)
	wantTreeOf(t, seven+"<p>x</p>y", append(chainNodes(7), textNode(6, "xy")), all...)
	// The end of one that was left out ends one further out that has its name.
	wantTreeOf(t, "<i><b><b><b><b><b><b><i>x</i>y", append(append(nodesOf(element(-1, "i")), chainNodes(7)[1:]...), textNode(6, "x"), textNode(-1, "y")))
	wantTreeOf(t, strings.Repeat("<b>", 30)+"x"+strings.Repeat("</b>", 6)+"y", append(chainNodes(7), textNode(6, "x"), textNode(0, "y")), 0)
	wantTreeOf(t, strings.Repeat("<b>", 30)+"x"+strings.Repeat("</b>", 30)+"y", append(chainNodes(7), textNode(6, "x"), textNode(-1, "y")))
}

// A tree may be deeper than what is open: what counts is how many are open.
func TestDepthIsOfWhatIsOpen(t *testing.T) {
	deep := chainNodes(8)
	for n := range 8 {
		open := []int64{0, 1, 2, 3, 4, 5, 6}[:n]
		x := stateOf(deep, open...)
		wantPut(t, x, byteToken('x'), stateOf(behindNodes(deep, textNode(int64(n)-1, "x")), open...))
		if n == 7 {
			wantStays(t, x, depthStarts()...)
			continue
		}
		wantPut(t, x, start("i"), stateOf(behindNodes(deep, element(int64(n)-1, "i")), append(slices.Clone(open), 8)...))
		wantPut(t, x, shut("i"), stateOf(behindNodes(deep, element(int64(n)-1, "i")), open...))
	}
}

func TestEndsOfWhatIsNotOpen(t *testing.T) {
	ends := list(end("p"), end("bb"), end("a"), end("br"), end("img"), end("abcdefgh"))
	wantStays(t, impl.BuildState{}, append(ends, end("b"))...)
	wantStays(t, openTags("b"), ends...)
	wantStays(t, openTags("b", "i", "b"), ends...)
	wantStays(t, stateOf(nodesOf(element(-1, "b"), element(-1, "p"), textNode(1, "x"))), append(ends, end("b"))...)
	// Those that are there, but have ended.
	wantStays(t, stateOf(nodesOf(element(-1, "i"), element(0, "a"), textNode(1, "x")), 0), ends...)
	wantStays(t, stateOf(nodesOf(element(-1, "i"), element(0, "br"), element(0, "img")), 0), ends...)
	wantTreeOf(t, "</b>x</b>", nodesOf(textNode(-1, "x")))
	wantTreeOf(t, "<b></b></b>x", nodesOf(element(-1, "b"), textNode(-1, "x")))
	wantTreeOf(t, "<br></br>x</img>", nodesOf(element(-1, "br"), textNode(-1, "x")))
	wantTreeOf(t, "<i/>x</i>y", nodesOf(element(-1, "i"), textNode(-1, "xy")))
}

func TestEndsOfWhatIsOpen(t *testing.T) {
	x := openTags("p", "b", "i", "b", "a")
	wantPut(t, x, end("a"), stateOf(x.Nodes, 0, 1, 2, 3))
	wantPut(t, x, end("b"), stateOf(x.Nodes, 0, 1, 2))
	wantPut(t, x, end("i"), stateOf(x.Nodes, 0, 1))
	wantPut(t, x, end("p"), stateOf(x.Nodes))
	for n := 1; n <= 7; n++ {
		same := openTags(slices.Repeat([]string{"abcdefgh"}, n)...)
		wantPut(t, same, end("abcdefgh"), stateOf(same.Nodes, same.Open[:n-1]...))
	}
	wantTreeOf(t, "<b><i>x</b>y</i>z", nodesOf(element(-1, "b"), element(0, "i"), textNode(1, "x"), textNode(-1, "yz")))
	wantTreeOf(t, "<b><i><b>x</b>y</b>z", nodesOf(element(-1, "b"), element(0, "i"), element(1, "b"), textNode(2, "x"), textNode(1, "y"), textNode(-1, "z")))
}

func TestNotesAreNowhere(t *testing.T) {
	for _, x := range goodBuilds() {
		wantStays(t, x, note())
	}
	wantTreeOf(t, "<!-- <b> -->", nil)
	wantTreeOf(t, "a<!-- <b> -->b", nodesOf(textNode(-1, "ab")))
	wantTreeOf(t, "<p><!----><b>a</b><!---->", nodesOf(element(-1, "p"), element(0, "b"), textNode(1, "a")), 0)
}

func TestBytesAreTexts(t *testing.T) {
	for b := range int64(256) {
		text := string([]byte{byte(b)})
		wantPut(t, impl.BuildState{}, byteToken(b), stateOf(nodesOf(textNode(-1, text))))
		wantPut(t, stateOf(nodesOf(textNode(-1, "x"))), byteToken(b), stateOf(nodesOf(textNode(-1, "x"+text))))
		wantPut(t, openTags("p"), byteToken(b), stateOf(nodesOf(element(-1, "p"), textNode(0, text)), 0))
	}
}

// A byte stands behind a text only where that is the last node, and in the same one.
func TestWhereBytesStand(t *testing.T) {
	x := byteToken('x')
	p, b, in, inner := element(-1, "p"), element(0, "b"), textNode(0, "t"), textNode(1, "t")
	wantPut(t, stateOf(nodesOf(p, in), 0), x, stateOf(nodesOf(p, textNode(0, "tx")), 0))
	wantPut(t, stateOf(nodesOf(p, b, inner), 0, 1), x, stateOf(nodesOf(p, b, textNode(1, "tx")), 0, 1))
	wantPut(t, stateOf(nodesOf(p, b, inner), 0), x, stateOf(nodesOf(p, b, inner, textNode(0, "x")), 0))
	wantPut(t, stateOf(nodesOf(p, b, inner)), x, stateOf(nodesOf(p, b, inner, textNode(-1, "x"))))
	wantPut(t, stateOf(nodesOf(p, in)), x, stateOf(nodesOf(p, in, textNode(-1, "x"))))
	wantPut(t, stateOf(nodesOf(p, in, element(0, "b")), 0), x, stateOf(nodesOf(p, in, element(0, "b"), textNode(0, "x")), 0))
	wantPut(t, stateOf(nodesOf(p, in, element(0, "br")), 0), x, stateOf(nodesOf(p, in, element(0, "br"), textNode(0, "x")), 0))
	wantPut(t, stateOf(nodesOf(p, in, element(0, "b")), 0, 2), x, stateOf(nodesOf(p, in, element(0, "b"), textNode(2, "x")), 0, 2))
	wantPut(t, stateOf(nodesOf(textNode(-1, "t"), element(-1, "p")), 1), x, stateOf(nodesOf(textNode(-1, "t"), element(-1, "p"), textNode(1, "x")), 1))
	wantPut(t, stateOf(nodesOf(textNode(-1, "t"), element(-1, "p"))), x, stateOf(nodesOf(textNode(-1, "t"), element(-1, "p"), textNode(-1, "x"))))
	wantPut(t, stateOf(nodesOf(textNode(-1, "t"), element(-1, "p"), textNode(1, "u"))), x, stateOf(nodesOf(textNode(-1, "t"), element(-1, "p"), textNode(1, "u"), textNode(-1, "x"))))
	wantTreeOf(t, "<b>x</b>y", nodesOf(element(-1, "b"), textNode(0, "x"), textNode(-1, "y")))
	wantTreeOf(t, "<p><b>x</b>y", nodesOf(element(-1, "p"), element(0, "b"), textNode(1, "x"), textNode(0, "y")), 0)
	wantTreeOf(t, "<p><b><i>x</i></b>y", nodesOf(element(-1, "p"), element(0, "b"), element(1, "i"), textNode(2, "x"), textNode(0, "y")), 0)
}

// fullTree has as many nodes as there may be: some that are open, one in the other, behind what stands in none.
func fullTree(tags ...string) impl.BuildState {
	nodes := flatNodes(60 - len(tags))
	var open []int64
	for i, tag := range tags {
		at := int64(len(nodes))
		if i == 0 {
			nodes = append(nodes, element(-1, tag))
		} else {
			nodes = append(nodes, element(at-1, tag))
		}
		open = append(open, at)
	}
	return stateOf(nodes, open...)
}

// MaxNodes nodes are not too large, but one more is, whatever it would be.
func TestTooManyNodes(t *testing.T) {
	for _, token := range append(depthStarts(), byteToken('x')) {
		wantPut(t, fullTree(), token, largeState())
		wantPut(t, fullTree("p", "b"), token, largeState())
		want := putOf(stateOf(flatNodes(59)), list(token)).State
		if len(want.Nodes) != 60 || want.Large {
			t.Errorf("%s is no node behind 59", brief(token))
		}
		wantPut(t, stateOf(flatNodes(59)), token, want)
	}
	wantStays(t, fullTree(), note(), end("b"), end("i"))
	x := fullTree("p", "b")
	wantPut(t, x, end("p"), stateOf(x.Nodes))
	wantPut(t, x, end("b"), stateOf(x.Nodes, 58))
}

// What is no new node is not too many: a byte behind a text, and a start that is left out.
func TestNoNewNodeIsNotTooMany(t *testing.T) {
	nodes := append(flatNodes(59), textNode(-1, "t"))
	wantPut(t, stateOf(nodes), byteToken('x'), stateOf(append(flatNodes(59), textNode(-1, "tx"))))
	seven := fullTree("b", "b", "b", "b", "b", "b", "b")
	wantStays(t, seven, depthStarts()...)
	wantPut(t, seven, byteToken('x'), largeState())
	withP := fullTree("b", "b", "p", "b", "b", "b", "b")
	wantPut(t, withP, start("p"), largeState())
	wantPut(t, withP, shut("p"), largeState())
	wantStays(t, withP, start("b"), shut("i"), start("br"))
}

func TestTextsThatAreTooLarge(t *testing.T) {
	full, near := strings.Repeat("x", 240), strings.Repeat("x", 239)
	y := byteToken('y')
	wantPut(t, stateOf(nodesOf(textNode(-1, near))), y, stateOf(nodesOf(textNode(-1, near+"y"))))
	wantPut(t, stateOf(nodesOf(textNode(-1, full))), y, largeState())
	wantPut(t, stateOf(nodesOf(element(-1, "p"), textNode(0, near)), 0), y, stateOf(nodesOf(element(-1, "p"), textNode(0, near+"y")), 0))
	wantPut(t, stateOf(nodesOf(element(-1, "p"), textNode(0, full)), 0), y, largeState())
	wantPut(t, stateOf(nodesOf(element(-1, "p"), textNode(0, full))), y, stateOf(nodesOf(element(-1, "p"), textNode(0, full), textNode(-1, "y"))))
	wantPut(t, stateOf(nodesOf(textNode(-1, full), element(-1, "p"))), y, stateOf(nodesOf(textNode(-1, full), element(-1, "p"), textNode(-1, "y"))))
	wantStays(t, stateOf(nodesOf(textNode(-1, full))), note(), end("b"))
	wantPut(t, stateOf(nodesOf(textNode(-1, full))), start("br"), stateOf(nodesOf(textNode(-1, full), element(-1, "br"))))
}

func TestWhatIsLargeStaysSo(t *testing.T) {
	wantStays(t, largeState(), goodTokens()...)
	for seed := range uint32(50) {
		wantParts(t, largeState(), buildTokens(int(seed), seed))
	}
	ends := append(slices.Repeat(list(start("p")), 61), slices.Repeat(list(end("p")), 200)...)
	wantBuilt(t, "PutAll of 61 p and ends", impl.PutAll(impl.BuildState{}, ends), impl.BuildResult{State: largeState()})
	wantNodes(t, "BuildTree of 61 p and ends", impl.BuildTree(ends), impl.NodesResult{Code: impl.ErrLarge})
}

func TestTreesThatAreTooLarge(t *testing.T) {
	large := impl.NodesResult{Code: impl.ErrLarge}
	flat := func(n int, tag string) impl.NodesResult {
		return impl.NodesResult{Nodes: slices.Repeat(nodesOf(element(-1, tag)), n)}
	}
	for _, tag := range []string{"p", "br", "img"} {
		tokens := slices.Repeat(list(start(tag)), 61)
		wantNodes(t, "BuildTree of 60 "+tag, impl.BuildTree(tokens[:60]), flat(60, tag))
		wantNodes(t, "BuildTree of 61 "+tag, impl.BuildTree(tokens), large)
	}
	wantNodes(t, "BuildTree of 300 b", impl.BuildTree(slices.Repeat(list(start("b")), 300)), impl.NodesResult{Nodes: chainNodes(7)})
	text := strings.Repeat("x", 300)
	wantNodes(t, "BuildTree of 240 bytes", impl.BuildTree(asBytes(text[:240])), impl.NodesResult{Nodes: nodesOf(textNode(-1, text[:240]))})
	wantNodes(t, "BuildTree of 241 bytes", impl.BuildTree(asBytes(text[:241])), large)
	wantNodes(t, "BuildTree of 300 bytes", impl.BuildTree(asBytes(text)), large)
	wantNodes(t, "BuildTree of 240 bytes and more", impl.BuildTree(joined(asBytes(text[:240]), list(start("br")), asBytes("yz"))), impl.NodesResult{Nodes: nodesOf(textNode(-1, text[:240]), element(-1, "br"), textNode(-1, "yz"))})
	wantNodes(t, "ParseText of 60 p", impl.ParseText([]byte(strings.Repeat("<p>", 60))), flat(60, "p"))
	wantNodes(t, "ParseText of 61 p", impl.ParseText([]byte(strings.Repeat("<p>", 61))), large)
	wantNodes(t, "ParseText of 59 p and a byte", impl.ParseText([]byte(strings.Repeat("<p>", 59)+"xyz")), impl.NodesResult{Nodes: append(flat(59, "p").Nodes, textNode(58, "xyz"))})
	wantNodes(t, "ParseText of 60 p and a byte", impl.ParseText([]byte(strings.Repeat("<p>", 60)+"x")), large)
	wantNodes(t, "ParseText of 60 i", impl.ParseText([]byte(strings.Repeat("<i/>", 60))), flat(60, "i"))
}

// An attribute stands in a node as it stood in the token, however large it is.
func TestAttributesAreKept(t *testing.T) {
	for _, token := range goodTokens() {
		if token.Kind == impl.TokStart {
			wantNodes(t, "BuildTree of "+brief(token), impl.BuildTree(list(token)), impl.NodesResult{Nodes: nodesOf(element(-1, token.Name, token.Attrs...))})
		}
	}
	attrs := append(manyAttrs(2000), attr("long", strings.Repeat("x", 1<<16)))
	wantPut(t, openTags("p"), start("b", attrs...), stateOf(nodesOf(element(-1, "p"), element(0, "b", attrs...)), 0, 1))
	wantTreeOf(t, "<a href=\"x&amp;y\" title=\"\" href=\"z\"/>", nodesOf(element(-1, "a", attr("href", "x&y"), attr("title", ""))))
}
