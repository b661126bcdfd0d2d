package tests

import (
	"slices"
	"strings"
	"testing"

	"loop.example/g00606/impl"
)

// meeting are texts of these sizes, each two with an element between that a filter
// takes away: one that is not kept, or one that is dropped and has a text in it.
func meeting(up int64, tag string, sizes ...int) []impl.Node {
	nodes := chainNodes(int(up) + 1)
	for i, size := range sizes {
		if i > 0 {
			nodes = append(nodes, element(up, tag))
			if isDroppedTag(tag) {
				nodes = append(nodes, textNode(int64(len(nodes))-1, "gone"))
			}
		}
		nodes = append(nodes, textNode(up, strings.Repeat(string(rune('a'+i%26)), size)))
	}
	return nodes
}

// metText is what such texts come to.
func metText(sizes ...int) string {
	text := ""
	for i, size := range sizes {
		text += strings.Repeat(string(rune('a'+i%26)), size)
	}
	return text
}

func takenAway() []string {
	return []string{"u", "script", "style", "p", "img"}
}

func TestTextsThatMeet(t *testing.T) {
	p := policyOf("b", "", "")
	for up := int64(-1); up < 6; up++ {
		for _, tag := range takenAway() {
			for _, sizes := range [][]int{{1, 1}, {3, 2}, {1, 2, 3}, {2, 1, 1, 5}, {1, 1, 1, 1, 1, 1, 1, 1}} {
				want := append(chainNodes(int(up)+1), textNode(up, metText(sizes...)))
				wantKept(t, p, meeting(up, tag, sizes...), want...)
			}
		}
	}
}

func TestSizesOfTextsThatMeet(t *testing.T) {
	p := policyOf("b", "", "")
	fit := [][]int{{240}, {239, 1}, {1, 239}, {120, 120}, {80, 80, 80}, {238, 1, 1}, {1, 1, 238}, {1, 238, 1}, slices.Repeat([]int{24}, 10), append(slices.Repeat([]int{12}, 15), 60)}
	large := [][]int{{240, 1}, {1, 240}, {120, 121}, {121, 120}, {240, 240}, {80, 80, 81}, {238, 2, 1}, {240, 1, 1}, {1, 1, 239}, {100, 100, 100, 100}, append(slices.Repeat([]int{24}, 10), 1), append(slices.Repeat([]int{12}, 15), 61)}
	for up := int64(-1); up < 4; up += 2 {
		for _, tag := range takenAway() {
			for _, sizes := range fit {
				wantKept(t, p, meeting(up, tag, sizes...), append(chainNodes(int(up)+1), textNode(up, metText(sizes...)))...)
			}
			for _, sizes := range large {
				nodes := meeting(up, tag, sizes...)
				wantFilterCode(t, p, nodes, impl.ErrLarge)
				// What is behind, and is kept, does not mend it.
				wantFilterCode(t, p, behindNodes(nodes, element(-1, "b"), textNode(-1, "x")), impl.ErrLarge)
			}
		}
	}
	// As many as a tree has room for.
	wantKept(t, p, meeting(-1, "u", slices.Repeat([]int{8}, 30)...), textNode(-1, metText(slices.Repeat([]int{8}, 30)...)))
	wantFilterCode(t, p, meeting(-1, "u", append(slices.Repeat([]int{8}, 29), 9)...), impl.ErrLarge)
}

// A text in a dropped one takes no room, nor do texts that stay apart.
func TestTextsThatDoNotMeetMayBeLarge(t *testing.T) {
	p := policyOf("b br", "", "")
	x, y := strings.Repeat("x", 240), strings.Repeat("y", 240)
	wantKept(t, p, nodesOf(textNode(-1, x), element(-1, "script"), textNode(1, y)), textNode(-1, x))
	wantKept(t, p, nodesOf(element(-1, "style"), textNode(0, y), textNode(-1, x)), textNode(-1, x))
	for _, tag := range []string{"b", "br"} {
		nodes := nodesOf(textNode(-1, x), element(-1, tag), textNode(-1, y))
		wantKept(t, p, nodes, nodes...)
	}
	nodes := nodesOf(textNode(-1, x), element(-1, "b"), textNode(1, y), textNode(-1, y))
	wantKept(t, p, nodes, nodes...)
	wantKept(t, p, nodesOf(textNode(-1, x), element(-1, "u"), element(1, "b"), textNode(2, y)), textNode(-1, x), element(-1, "b"), textNode(1, y))
}

func TestTextsAtBothEndsOfOneThatIsNotKept(t *testing.T) {
	p := policyOf("b br", "", "")
	wantKeptText(t, p, "a<u>b</u>c", textNode(-1, "abc"))
	wantKeptText(t, p, "<u>a</u>b", textNode(-1, "ab"))
	wantKeptText(t, p, "a<u>b</u>", textNode(-1, "ab"))
	wantKeptText(t, p, "<u>a</u><u>b</u>", textNode(-1, "ab"))
	wantKeptText(t, p, "a<u>b<b>c</b>d</u>e", textNode(-1, "ab"), element(-1, "b"), textNode(1, "c"), textNode(-1, "de"))
	wantKeptText(t, p, "<u>a<u>b<u>c</u>d</u>e</u>", textNode(-1, "abcde"))
	wantKeptText(t, p, "<b>a<u>b</u>c</b>d<u>e</u>", element(-1, "b"), textNode(0, "abc"), textNode(-1, "de"))
	wantKeptText(t, p, "a<u></u>b<u></u><u></u>c", textNode(-1, "abc"))
	wantKeptText(t, p, "a<u><br></u>b", textNode(-1, "a"), element(-1, "br"), textNode(-1, "b"))
}

// What stands between them is kept, so they stay two, though one alone is behind the other.
func TestTextsWithOneBetweenThatIsKept(t *testing.T) {
	p := policyOf("b br", "", "")
	wantKeptText(t, p, "a<b></b>b", textNode(-1, "a"), element(-1, "b"), textNode(-1, "b"))
	wantKeptText(t, p, "a<br>b", textNode(-1, "a"), element(-1, "br"), textNode(-1, "b"))
	wantKeptText(t, p, "a<b>b</b>c", textNode(-1, "a"), element(-1, "b"), textNode(1, "b"), textNode(-1, "c"))
	wantKeptText(t, p, "a<u><b>b</b></u>c", textNode(-1, "a"), element(-1, "b"), textNode(1, "b"), textNode(-1, "c"))
	wantKeptText(t, p, "a<u>b</u><b></b><u>c</u>d", textNode(-1, "ab"), element(-1, "b"), textNode(-1, "cd"))
	wantKeptText(t, p, "<b>a</b>b<b>c</b>", element(-1, "b"), textNode(0, "a"), textNode(-1, "b"), element(-1, "b"), textNode(3, "c"))
	wantKeptText(t, p, "<b>a<script>x</script></b>b", element(-1, "b"), textNode(0, "a"), textNode(-1, "b"))
	wantKeptText(t, p, "<b>a</b><b>b</b>", element(-1, "b"), textNode(0, "a"), element(-1, "b"), textNode(2, "b"))
}

// Texts that meet, since a p in a p, and what is too deep, are not kept.
func TestTextsMeetWhereThePlaceBarsWhatIsBetween(t *testing.T) {
	p := openPolicy()
	wantKept(t, p, nodesOf(element(-1, "p"), textNode(0, "a"), element(0, "p"), textNode(2, "b"), textNode(0, "c")), element(-1, "p"), textNode(0, "abc"))
	wantKept(t, p, append(chainNodes(7), textNode(6, "a"), element(6, "b"), textNode(6, "b"), element(6, "br"), textNode(6, "c")), append(chainNodes(7), textNode(6, "abc"))...)
}

// A text that came from outside is what it was: bytes that would be marks, and any others.
func TestTextsAreKeptByteByByte(t *testing.T) {
	all := string(allBytes())
	text := all[:120] + "<b>&lt;</b>"
	wantKept(t, impl.Policy{}, nodesOf(textNode(-1, text), element(-1, "b"), textNode(1, all[120:200])), textNode(-1, text+all[120:200]))
	wantKept(t, openPolicy(), nodesOf(element(-1, "b"), textNode(0, all[200:]), element(-1, "u"), textNode(2, "\x00")), element(-1, "b"), textNode(0, all[200:]), textNode(-1, "\x00"))
}
