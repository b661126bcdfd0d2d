package tests

import (
	"strings"
	"testing"

	"loop.example/g00606/impl"
)

// What is in what is gone, at every depth.

func TestAllInADroppedOneIsGone(t *testing.T) {
	for _, tag := range []string{"script", "style"} {
		for _, p := range []impl.Policy{{}, openPolicy(), policyOf("a b br i img p script style u", "href", "http"), policyOf("script style", "", "")} {
			dropped := nodesOf(element(-1, tag, attr("href", "x")))
			wantKept(t, p, dropped)
			wantKept(t, p, behindNodes(dropped, textNode(0, "x")))
			wantKept(t, p, behindNodes(dropped, textNode(0, "x"), element(0, "b"), textNode(2, "y"), element(0, "br"), textNode(0, "z")))
			// Each one in the one ahead, down to the deepest text.
			wantKept(t, p, behindNodes(dropped, element(0, "b"), element(1, "p"), element(2, "u"), element(3, "i"), element(4, "a"), element(5, "b"), textNode(6, "x")))
			wantKept(t, p, behindNodes(dropped, element(0, "u"), element(1, "u"), textNode(2, "x"), element(0, "p"), textNode(4, "y")))
			wantKept(t, p, behindNodes(dropped, element(0, "script"), textNode(1, "x"), element(0, "style"), textNode(3, "y"), textNode(0, "z")))
			wantKept(t, p, behindNodes(dropped, textNode(0, "x"), textNode(-1, "y")), textNode(-1, "y"))
			wantKept(t, p, append(nodesOf(textNode(-1, "y"), element(-1, tag)), textNode(1, "x")), textNode(-1, "y"))
		}
	}
}

func TestADroppedOneAtEachDepth(t *testing.T) {
	p := openPolicy()
	for depth := range 7 {
		for _, tag := range []string{"script", "style"} {
			chain := chainNodes(depth)
			up := int64(depth) - 1
			nodes := append(chain, element(up, tag), textNode(int64(depth), "gone"), textNode(up, "here"))
			wantKept(t, p, nodes, append(chainNodes(depth), textNode(up, "here"))...)
		}
	}
	// At the last depth that a tree has nothing can be in it.
	wantKept(t, p, append(chainNodes(7), element(6, "script")), chainNodes(7)...)
}

func TestADroppedOneInOneThatIsNotKept(t *testing.T) {
	p := policyOf("b p", "", "")
	wantKeptText(t, p, "<u>a<script>b</script>c</u>", textNode(-1, "ac"))
	wantKeptText(t, p, "<u><u><style>a<b>b</b></style></u>c</u>", textNode(-1, "c"))
	wantKeptText(t, p, "<b><u><script>a</script></u></b>", element(-1, "b"))
	wantKeptText(t, p, "<p><u>a<style>b</style><b>c</b></u></p>", element(-1, "p"), textNode(0, "a"), element(0, "b"), textNode(2, "c"))
}

func TestOneThatIsNotKeptInADroppedOne(t *testing.T) {
	p := policyOf("b p", "", "")
	wantKeptText(t, p, "<script>a<u>b</u>c</script>")
	wantKeptText(t, p, "a<script><u>b<u>c</u></u></script>d", textNode(-1, "ad"))
	wantKeptText(t, p, "<b>a<style><u>b</u></style></b>c", element(-1, "b"), textNode(0, "a"), textNode(-1, "c"))
	wantKeptText(t, p, "<script><u><p>a</p></u></script><p>b</p>", element(-1, "p"), textNode(0, "b"))
}

// A p in a dropped one bars no p: it came to nothing.
func TestAPInADroppedOne(t *testing.T) {
	p := policyOf("b p", "", "")
	wantKept(t, p, nodesOf(element(-1, "b"), element(0, "script"), element(1, "p"), textNode(2, "x"), element(0, "p"), textNode(4, "y")),
		element(-1, "b"), element(0, "p"), textNode(1, "y"))
}

// Tags that look like dropped ones are not: what is in them stays.
func TestTagsNearDroppedOnes(t *testing.T) {
	for _, tag := range []string{"scrip", "scripts", "styl", "styles", "s", "u", "noscript"} {
		wantKept(t, openPolicy(), nodesOf(element(-1, tag), textNode(0, "x")), textNode(-1, "x"))
	}
}

// A p in a p.

func TestAPIsNotKeptInAP(t *testing.T) {
	p := policyOf("b i p", "", "")
	wantKept(t, p, nodesOf(element(-1, "p"), element(0, "p")), element(-1, "p"))
	wantKept(t, p, nodesOf(element(-1, "p"), element(0, "p"), textNode(1, "x")), element(-1, "p"), textNode(0, "x"))
	wantKept(t, p, nodesOf(element(-1, "p"), element(0, "b"), element(1, "p"), textNode(2, "x")), element(-1, "p"), element(0, "b"), textNode(1, "x"))
	wantKept(t, p, nodesOf(element(-1, "p"), element(0, "b"), element(1, "i"), element(2, "p"), element(3, "b"), textNode(4, "x")),
		element(-1, "p"), element(0, "b"), element(1, "i"), element(2, "b"), textNode(3, "x"))
	wantKept(t, p, nodesOf(element(-1, "p"), element(0, "p"), element(1, "p"), element(2, "b"), element(3, "p"), textNode(4, "x")),
		element(-1, "p"), element(0, "b"), textNode(1, "x"))
	wantKept(t, p, nodesOf(element(-1, "b"), element(0, "p"), element(1, "p"), textNode(2, "x")), element(-1, "b"), element(0, "p"), textNode(1, "x"))
}

func TestAPInAPWithOneBetweenThatIsNotKept(t *testing.T) {
	p := policyOf("b p", "", "")
	wantKept(t, p, nodesOf(element(-1, "p"), element(0, "u"), element(1, "p"), textNode(2, "x")), element(-1, "p"), textNode(0, "x"))
	wantKept(t, p, nodesOf(element(-1, "u"), element(0, "p"), element(1, "u"), element(2, "b"), element(3, "u"), element(4, "p"), textNode(5, "x")),
		element(-1, "p"), element(0, "b"), textNode(1, "x"))
	wantKept(t, p, nodesOf(element(-1, "u"), element(0, "p"), textNode(1, "x"), element(0, "p"), textNode(3, "y")),
		element(-1, "p"), textNode(0, "x"), element(-1, "p"), textNode(2, "y"))
}

func TestAPThatIsKeptBehindAP(t *testing.T) {
	p := policyOf("b p", "", "")
	same := [][]impl.Node{
		nodesOf(element(-1, "p"), element(-1, "p")),
		nodesOf(element(-1, "p"), textNode(0, "x"), element(-1, "p"), textNode(2, "y")),
		nodesOf(element(-1, "b"), element(0, "p"), textNode(1, "x"), element(0, "p"), element(3, "b"), element(-1, "p")),
	}
	for _, nodes := range same {
		wantKept(t, p, nodes, nodes...)
	}
	// One that was not kept, since it was in a p, leaves the next one outside as it is.
	wantKept(t, p, nodesOf(element(-1, "p"), element(0, "p"), element(0, "p"), element(-1, "p"), element(3, "p")), element(-1, "p"), element(-1, "p"))
}

// Where the policy has no p, none bars another one, and all texts stay.
func TestPsThatMayNotBe(t *testing.T) {
	p := policyOf("b", "", "")
	wantKept(t, p, nodesOf(element(-1, "p"), element(0, "b"), element(1, "p"), textNode(2, "x")), element(-1, "b"), textNode(0, "x"))
	wantKept(t, p, nodesOf(element(-1, "p"), element(0, "p"), textNode(1, "x")), textNode(-1, "x"))
}

// What is too deep.

func TestElementsInSixAndInSeven(t *testing.T) {
	p := openPolicy()
	for _, tag := range []string{"a", "b", "br", "i", "img", "p"} {
		wantKept(t, p, append(chainNodes(6), element(5, tag)), append(chainNodes(6), element(5, tag))...)
		wantKept(t, p, append(chainNodes(7), element(6, tag)), chainNodes(7)...)
		wantKept(t, p, append(chainNodes(7), element(6, tag), textNode(6, "x")), append(chainNodes(7), textNode(6, "x"))...)
		wantKept(t, p, append(chainNodes(7), textNode(6, "x"), element(6, tag), textNode(6, "y")), append(chainNodes(7), textNode(6, "xy"))...)
	}
	// A text may be in seven.
	wantKept(t, p, append(chainNodes(7), textNode(6, "x")), append(chainNodes(7), textNode(6, "x"))...)
	wantStable(t, append(chainNodes(7), textNode(6, "x")), true)
	wantStable(t, chainNodes(7), true)
	wantStable(t, chainNodes(8), false)
}

// Only what is kept is counted: those that are not kept make room for what is in them.
func TestDepthIsOfWhatIsKept(t *testing.T) {
	p := policyOf("b p", "", "")
	for at := range 8 {
		nodes := chainNodes(8)
		nodes[at].Tag = "u"
		wantKept(t, p, nodes, chainNodes(7)...)
		if at < 7 {
			nodes[at].Tag = "script"
			wantKept(t, p, nodes, chainNodes(at)...)
		}
	}
	// The second p is not kept, so that the last b is in six.
	nodes := nodesOf(element(-1, "p"), element(0, "p"), element(1, "b"), element(2, "b"), element(3, "b"), element(4, "b"), element(5, "b"), element(6, "b"))
	wantKept(t, p, nodes, element(-1, "p"), element(0, "b"), element(1, "b"), element(2, "b"), element(3, "b"), element(4, "b"), element(5, "b"))
}

// Behind a deep one that has ended there is room again.
func TestDepthEndsWithItsElement(t *testing.T) {
	p := openPolicy()
	nodes := append(chainNodes(8), element(6, "i"), element(5, "i"), element(9, "a"), element(0, "a"), element(-1, "a"))
	wantKept(t, p, nodes, append(chainNodes(7), element(5, "i"), element(0, "a"), element(-1, "a"))...)
}

// Attributes.

func TestKeptElementsHaveTheirKeptAttrs(t *testing.T) {
	p := policyOf("a b img", "href title width", "http")
	wantKept(t, p, nodesOf(element(-1, "a", attrsFrom("href", "http:x", "title", "t", "onload", "x")...)), element(-1, "a", attrsFrom("href", "http:x", "title", "t")...))
	wantKept(t, p, nodesOf(element(-1, "a", attrsFrom("onload", "x", "href", "js:x", "title", "t")...), textNode(0, "x")), element(-1, "a", attr("title", "t")), textNode(0, "x"))
	wantKept(t, p, nodesOf(element(-1, "img", attr("width", "01.50"))), element(-1, "img", attr("width", "1.5")))
	wantKept(t, p, nodesOf(element(-1, "img", attr("width", "1.0"), attr("src", "x"))), element(-1, "img", attr("width", "1")))
	wantKept(t, p, nodesOf(element(-1, "b", attrsFrom("title", "1", "href", "2", "width", "3")...)), element(-1, "b", attrsFrom("title", "1", "href", "2")...))
	wantKept(t, p, nodesOf(element(-1, "b", attrsFrom("onclick", "x", "src", "y")...), element(0, "b", attr("width", "-1"))), element(-1, "b"), element(0, "b"))
	wantKept(t, p, nodesOf(element(-1, "u", attr("title", "t")), element(0, "b", attr("title", "s"))), element(-1, "b", attr("title", "s")))
	wantKept(t, impl.Policy{Tags: []string{"b"}}, nodesOf(element(-1, "b", attr("title", "t"))), element(-1, "b"))
}

// Of more attributes than KeptAttrs asks it answers a code, and beside that there are none.
func TestElementsOfVeryManyAttributes(t *testing.T) {
	for _, n := range []int{18, 19, 20, 700} {
		attrs := append([]impl.Attr{attr("title", "t")}, manyAttrs(n)...)
		kept := element(-1, "b", attr("title", "t"))
		if len(attrs) > 20 {
			kept = element(-1, "b")
		}
		nodes := nodesOf(element(-1, "b", attrs...), textNode(0, "x"), element(-1, "i"))
		wantKept(t, openPolicy(), nodes, kept, textNode(0, "x"), element(-1, "i"))
		wantAllowed(t, openPolicy(), nodes, false)
	}
}

func TestCountTags(t *testing.T) {
	nodes := nodesOf(element(-1, "p"), textNode(0, "b"), element(0, "b"), element(2, "b"), textNode(3, "x"), element(-1, "p"), element(5, "script"), element(6, "b"), element(-1, "abcdefgh"))
	counts := map[string]int64{"p": 2, "b": 3, "script": 1, "abcdefgh": 1, "u": 0, "x": 0, "": 0, "P": 0, "B": 0, "Script": 0, "abcdefg": 0, "abcdefghi": 0, "bb": 0, "b ": 0, " b": 0, "\x00": 0, "\xff": 0}
	for tag, count := range counts {
		wantCount(t, nodes, tag, impl.IntResult{Value: count})
	}
	for _, tag := range append(oddTags(), tagsThatAreSafe()...) {
		wantCount(t, nil, tag, impl.IntResult{})
		wantCount(t, nodesOf(textNode(-1, "b")), tag, impl.IntResult{})
		wantCount(t, nodesOf(), tag, impl.IntResult{})
	}
	wantCount(t, nodes, strings.Repeat("b", 1<<16), impl.IntResult{})
	wantCount(t, flatNodes(60), "i", impl.IntResult{Value: 60})
	wantCount(t, chainNodes(8), "b", impl.IntResult{Value: 8})
	wantCount(t, append(chainNodes(8), flatNodes(52)...), "i", impl.IntResult{Value: 52})
	wantCount(t, flatNodes(61), "i", impl.IntResult{Code: impl.ErrMany})
}

func TestCountTagsOfManyShapes(t *testing.T) {
	eachShape(func(nodes []impl.Node) {
		total := int64(0)
		for _, tag := range []string{"p", "b", "i", "abcdefgh", "br", "img"} {
			wantCount(t, nodes, tag, countOf(nodes, tag))
			total += impl.CountTags(nodes, tag).Value
		}
		wantCount(t, nodes, "", impl.IntResult{})
		for _, n := range nodes {
			if n.Tag == "" {
				total++
			}
		}
		if total != int64(len(nodes)) {
			t.Errorf("%s: %d elements and texts in all", briefNodes(nodes), total)
		}
	})
}
