package tests

import (
	"strings"
	"testing"

	"loop.example/g00606/impl"
)

// allowedTree is allowed by allowingPolicy, with elements at the first place, in the middle and at the last one.
func allowedTree() []impl.Node {
	return nodesOf(
		element(-1, "p", attrsFrom("title", "t", "width", "1.5")...), textNode(0, "x"), element(0, "b"), element(2, "a", attr("href", "/x")), textNode(3, "y"),
		element(-1, "img", attrsFrom("src", "http:x", "width", "2")...), textNode(-1, "z"), element(-1, "p"), element(7, "i", attr("title", "")),
	)
}

func allowingPolicy() impl.Policy {
	return policyOf("a b i img p", "href src title width", "http")
}

// placesOfElements are the first one, one in the middle, and the last one.
func placesOfElements() []int {
	return []int{0, 3, 8}
}

func TestATreeThatIsAllowed(t *testing.T) {
	p, nodes := allowingPolicy(), allowedTree()
	wantStable(t, nodes, true)
	wantAllowed(t, p, nodes, true)
	wantKept(t, p, nodes, nodes...)
	for _, none := range [][]impl.Node{nil, {}} {
		wantStable(t, none, true)
		wantAllowed(t, p, none, true)
		wantAllowed(t, impl.Policy{}, none, true)
		wantKept(t, p, none)
		wantKept(t, impl.Policy{}, none)
	}
	wantAllowed(t, impl.Policy{}, nodesOf(textNode(-1, "<b>")), true)
	wantStable(t, nodesOf(textNode(-1, "<b>")), true)
}

// A tree is stable whatever its tags and attributes are: it is not allowed alone.
func TestATagThatMayNotBe(t *testing.T) {
	for _, at := range placesOfElements() {
		for _, tag := range []string{"u", "script", "style", "br", "pp", "abcdefgh", "div"} {
			if tag == "br" && at != 8 {
				continue
			}
			nodes := allowedTree()
			nodes[at].Tag = tag
			wantStable(t, nodes, true)
			wantAllowed(t, allowingPolicy(), nodes, false)
		}
		// The same tree, by a policy without the tag that stands there.
		tag := allowedTree()[at].Tag
		words := strings.Fields(strings.Replace(" a b i img p ", " "+tag+" ", " ", 1))
		wantAllowed(t, impl.Policy{Tags: words, Attrs: allowingPolicy().Attrs, Schemes: allowingPolicy().Schemes}, allowedTree(), false)
	}
}

// Attributes that are not their own KeptAttrs: in their values, their number and their order.
func TestAttributesThatAreNotTheirOwn(t *testing.T) {
	for _, at := range placesOfElements() {
		for _, attrs := range [][]impl.Attr{
			attrsFrom("onload", "x"), attrsFrom("title", "t", "onload", "x"), attrsFrom("onload", "x", "title", "t"),
			attrsFrom("width", "1.50"), attrsFrom("width", "01"), attrsFrom("width", "-0"), attrsFrom("width", "x"), attrsFrom("width", ""), attrsFrom("title", "t", "width", "2.0"),
			attrsFrom("title", "long title"), attrsFrom("title", "a b"), attrsFrom("title", "\xff"), attrsFrom("href", "js:x"), attrsFrom("src", "https:x"),
			attrsFrom("href", "x", "src", "y", "title", "z"), attrsFrom("title", "", "href", "", "src", ""), manyAttrs(21),
		} {
			nodes := allowedTree()
			nodes[at].Attrs = attrs
			wantStable(t, nodes, true)
			wantAllowed(t, allowingPolicy(), nodes, false)
		}
	}
}

// Two attributes are their own in either order: none of the two orders is the only one.
func TestAttributesThatAreTheirOwn(t *testing.T) {
	for _, at := range placesOfElements() {
		for _, attrs := range [][]impl.Attr{
			nil, {}, attrsFrom("title", ""), attrsFrom("width", "0"), attrsFrom("width", "1.5", "title", "t"), attrsFrom("title", "t", "width", "1.5"),
			attrsFrom("src", "HTTP:x", "href", "/js:x"), attrsFrom("href", "12345678"),
		} {
			nodes := allowedTree()
			nodes[at].Attrs = attrs
			wantAllowed(t, allowingPolicy(), nodes, true)
			wantKept(t, allowingPolicy(), nodes, nodes...)
		}
	}
}

func TestAPInAPIsNotStable(t *testing.T) {
	p := allowingPolicy()
	broken := [][]impl.Node{
		nodesOf(element(-1, "p"), element(0, "p")),
		nodesOf(element(-1, "p"), element(0, "p"), element(-1, "b"), textNode(2, "x")),
		nodesOf(element(-1, "b"), element(0, "p"), element(1, "i"), element(2, "p"), textNode(3, "x"), element(-1, "p")),
		nodesOf(element(-1, "p"), element(0, "b"), element(1, "i"), element(2, "a"), element(3, "b"), element(4, "i"), element(5, "p")),
		behindNodes(allowedTree(), element(8, "p")),
		behindNodes(allowedTree(), element(7, "p")),
		behindNodes(allowedTree()[:4], element(3, "p")),
	}
	for _, nodes := range broken {
		wantStable(t, nodes, false)
		wantAllowed(t, p, nodes, false)
		// Of another tag it would be.
		for at := range nodes {
			if nodes[at].Tag == "p" {
				nodes[at].Tag = "b"
			}
		}
		wantStable(t, nodes, true)
		wantAllowed(t, p, nodes, true)
	}
	for _, nodes := range [][]impl.Node{nodesOf(element(-1, "p"), element(-1, "p")), nodesOf(element(-1, "b"), element(0, "p"), element(0, "p")), nodesOf(element(-1, "p"), textNode(0, "x"), element(-1, "b"), element(2, "p"))} {
		wantStable(t, nodes, true)
		wantAllowed(t, p, nodes, true)
	}
}

func TestWhatIsTooDeepIsNotStable(t *testing.T) {
	p := allowingPolicy()
	for _, tag := range []string{"a", "b", "i", "img", "p"} {
		for _, ahead := range [][]impl.Node{nil, nodesOf(textNode(-1, "x"), element(-1, "b"))} {
			for _, behind := range [][]impl.Node{nil, nodesOf(textNode(-1, "y")), nodesOf(element(-1, "i"), textNode(-1, "y"))} {
				for deep := range 8 {
					nodes := behindNodes(ahead)
					up := int64(-1)
					for range deep {
						nodes = append(nodes, element(up, "b"))
						up = int64(len(nodes)) - 1
					}
					nodes = append(append(nodes, element(up, tag)), behind...)
					wantStable(t, nodes, deep < 7)
					wantAllowed(t, p, nodes, deep < 7)
				}
			}
		}
	}
}

// A tree of text alone is allowed by every policy without a fault, and by none with one.
func TestTextAloneIsAllowed(t *testing.T) {
	for _, p := range policiesOfAllKinds() {
		nodes := nodesOf(textNode(-1, "<script>&"))
		wantAllowed(t, p, nodes, policyFaultOf(p) == impl.OK)
		wantAllowed(t, p, nil, policyFaultOf(p) == impl.OK)
		wantFiltered(t, p, nodes)
	}
}
