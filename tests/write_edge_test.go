package tests

import (
	"slices"
	"strings"
	"testing"

	"loop.example/g00606/impl"
)

// A tree that is told in full, so that not all hangs on the test's own ways.
func TestWritingThatIsTold(t *testing.T) {
	nodes := nodesOf(
		textNode(-1, "a&"), element(-1, "p", attr("title", "\"")), textNode(1, "b<"), element(1, "br"), element(1, "i"), element(4, "b"), textNode(5, "c"),
		textNode(4, "d"), textNode(1, "e"), element(-1, "img", attr("src", "x"), attr("alt", "")), textNode(-1, "z"), element(-1, "u"),
	)
	wantAsText(t, nodes, `a&amp;<p title="&quot;">b&lt;<br><i><b>c</b>d</i>e</p><img src="x" alt="">z<u></u>`)
	texts := []string{
		"a&amp;", `<p title="&quot;">b&lt;<br><i><b>c</b>d</i>e</p>`, "b&lt;", "<br>", "<i><b>c</b>d</i>", "<b>c</b>", "c",
		"d", "e", `<img src="x" alt="">`, "z", "<u></u>",
	}
	froms := []int64{0, 6, 24, 29, 33, 36, 39, 44, 49, 54, 74, 75}
	for at := range nodes {
		wantNodeText(t, nodes, int64(at), texts[at])
		wantSpan(t, nodes, int64(at), impl.SpanResult{From: froms[at], Size: int64(len(texts[at]))})
	}
	for _, at := range noPlaces(len(nodes)) {
		wantCodes(t, nodes, at, impl.OK, impl.ErrRange, impl.ErrRange)
	}
}

// A tree that is not stable is written, too.
func TestSmallWriting(t *testing.T) {
	wantAsText(t, nodesOf(textNode(-1, "x")), "x")
	wantAsText(t, nodesOf(element(-1, "p")), "<p></p>")
	wantAsText(t, nodesOf(element(-1, "p"), element(0, "p")), "<p><p></p></p>")
	wantAsText(t, nodesOf(element(-1, "p"), element(-1, "p")), "<p></p><p></p>")
	wantAsText(t, nodesOf(element(-1, "p"), textNode(0, "a"), textNode(-1, "b")), "<p>a</p>b")
	wantAsText(t, nodesOf(element(-1, "p"), textNode(0, "a"), element(0, "b"), textNode(2, "b"), textNode(0, "c")), "<p>a<b>b</b>c</p>")
	wantAsText(t, nodesOf(element(-1, "script"), textNode(0, "</script>")), "<script>&lt;/script&gt;</script>")
	wantAsText(t, nodesOf(element(-1, "abcdefgh"), element(-1, "z")), "<abcdefgh></abcdefgh><z></z>")
}

func TestNothingIsWritten(t *testing.T) {
	for _, none := range [][]impl.Node{nil, {}, make([]impl.Node, 0, 9)} {
		wantAsText(t, none, "")
		for _, at := range append(noPlaces(0), 0) {
			wantCodes(t, none, at, impl.OK, impl.ErrRange, impl.ErrRange)
		}
	}
}

// Void ones have no end, wherever they stand and whatever they have.
func TestVoidOnesHaveNoEnd(t *testing.T) {
	for _, tag := range []string{"br", "img"} {
		for open, attrs := range map[string][]impl.Attr{
			"<" + tag + ">":                     nil,
			"<" + tag + ` src="/x">`:            {attr("src", "/x")},
			"<" + tag + ` a="" b="&quot;&lt;">`: {attr("a", ""), attr("b", "\"<")},
		} {
			wantAsText(t, nodesOf(element(-1, tag, attrs...)), open)
			wantAsText(t, nodesOf(element(-1, tag, attrs...), element(-1, tag, attrs...)), open+open)
			wantAsText(t, nodesOf(element(-1, tag, attrs...), textNode(-1, "x"), element(-1, tag, attrs...)), open+"x"+open)
			wantAsText(t, nodesOf(textNode(-1, "x"), element(-1, tag, attrs...), textNode(-1, "y")), "x"+open+"y")
			wantAsText(t, nodesOf(element(-1, "p"), element(0, tag, attrs...)), "<p>"+open+"</p>")
			wantAsText(t, nodesOf(element(-1, "p"), element(0, tag, attrs...), textNode(0, "x"), element(0, tag, attrs...)), "<p>"+open+"x"+open+"</p>")
			wantAsText(t, nodesOf(element(-1, "p"), element(0, "b"), element(1, tag, attrs...), element(0, tag, attrs...), element(-1, tag, attrs...)), "<p><b>"+open+"</b>"+open+"</p>"+open)
			deep := append(chainNodes(6), element(5, tag, attrs...))
			wantAsText(t, deep, strings.Repeat("<b>", 6)+open+strings.Repeat("</b>", 6))
		}
	}
}

// What is no void one has an end, with nothing in it, too.
func TestOthersHaveAnEnd(t *testing.T) {
	for _, tag := range []string{"b", "p", "brr", "bri", "r", "imgs", "im", "g", "bbr", "hr", "script", "input", "abcdefgh"} {
		wantAsText(t, nodesOf(element(-1, tag)), "<"+tag+"></"+tag+">")
		wantAsText(t, nodesOf(element(-1, tag, attr("a", "x"))), "<"+tag+` a="x"></`+tag+">")
		wantAsText(t, nodesOf(element(-1, tag), element(0, "br"), element(-1, tag)), "<"+tag+"><br></"+tag+"><"+tag+"></"+tag+">")
	}
}

// quotedBytes are what is written of a byte in a value and in a text.
func quotedBytes() map[string]string {
	return map[string]string{
		"\"": "&quot;", "&": "&amp;", "<": "&lt;", ">": "&gt;", "\x00": "\x00", "\n": "\n", "'": "'", "=": "=", "/": "/", " ": " ", "\x7f": "\x7f", "\x80": "\x80", "\xff": "\xff",
		"a\"b": "a&quot;b", "\"\"": "&quot;&quot;", "&quot;": "&amp;quot;", "&amp;": "&amp;amp;", "&#65;": "&amp;#65;", "<b>": "&lt;b&gt;", "</b>": "&lt;/b&gt;", "<!--": "&lt;!--", "-->": "--&gt;",
		"\" c=\"d": "&quot; c=&quot;d", "\">": "&quot;&gt;", "\xc3\xa9": "\xc3\xa9", "\x00\"\xff": "\x00&quot;\xff", "&l": "&amp;l", "lt;": "lt;",
	}
}

func TestQuotesInValuesAndTexts(t *testing.T) {
	for data, own := range quotedBytes() {
		wantOpen(t, "b", []impl.Attr{attr("title", data)}, `<b title="`+own+`">`)
		wantOpen(t, "img", []impl.Attr{attr("a", data), attr("b", ""), attr("c", data+data)}, `<img a="`+own+`" b="" c="`+own+own+`">`)
		wantAsText(t, nodesOf(textNode(-1, data)), own)
		wantAsText(t, nodesOf(element(-1, "b", attr("title", data)), textNode(0, data), element(-1, "br", attr("title", data))), `<b title="`+own+`">`+own+`</b><br title="`+own+`">`)
	}
	for b := range 256 {
		data := string([]byte{byte(b)})
		wantAsText(t, nodesOf(element(-1, "p", attr("title", data)), textNode(0, data)), `<p title="`+escaped(data)+`">`+escaped(data)+"</p>")
		wantAsText(t, nodesOf(textNode(-1, "a"+data+data+"b")), "a"+escaped(data)+escaped(data)+"b")
	}
}

func TestAttributesAreWrittenInOrder(t *testing.T) {
	wantOpen(t, "b", nil, "<b>")
	wantOpen(t, "b", []impl.Attr{attr("b", "")}, `<b b="">`)
	wantOpen(t, "b", []impl.Attr{attr("z", "1"), attr("a", "2")}, `<b z="1" a="2">`)
	wantOpen(t, "abcdefgh", []impl.Attr{attr("abcdefgh", "x y")}, `<abcdefgh abcdefgh="x y">`)
	wantOpen(t, "br", nil, "<br>")
	wantOpen(t, "p", manyAttrs(3), `<p aaaa="v" baaa="v" caaa="v">`)
	wantAsText(t, nodesOf(element(-1, "p", manyAttrs(15)...)), tagText(start("p", manyAttrs(15)...))+"</p>")
}

// startsOfSize are starts of n bytes: by attributes that are many, by values that are long, and by what is escaped in them.
func startsOfSize(n int) []impl.Token {
	x := func(token impl.Token, fill string) impl.Token {
		last := len(token.Attrs) - 1
		for len(tagText(token)) < n {
			more := fill
			if len(tagText(token))+len(escaped(fill)) > n {
				more = "x"
			}
			token.Attrs[last].Value = append(token.Attrs[last].Value, more...)
		}
		return token
	}
	return []impl.Token{
		x(start("b", attr("a", "")), "x"), x(start("abcdefgh", attr("abcdefgh", "")), "x"), x(start("br", attr("a", "")), "x"), x(start("b", attr("a", "")), "\""), x(start("b", attr("a", "")), "&"),
		x(start("b", attr("a", "")), "<>"), x(start("p", attr("a", strings.Repeat("y", 60)), attr("b", "")), "x"), x(start("p", append(manyAttrs(12), attr("z", ""))...), "x"), x(start("img", attr("c", "\""), attr("b", "&&"), attr("a", "")), "\xff"),
	}
}

// A start has at most 160 bytes, in whatever way it comes to them.
func TestStartsAtTheBound(t *testing.T) {
	for _, n := range []int{120, 159, 160} {
		for _, one := range startsOfSize(n) {
			wantOpen(t, one.Name, one.Attrs, tagText(one))
			if got := len(tagText(one)); got != n {
				t.Errorf("%s has %d bytes, not %d", brief(one), got, n)
			}
			wantWriting(t, nodesOf(element(-1, one.Name, one.Attrs...)))
			wantWriting(t, nodesOf(element(-1, "p"), element(0, one.Name, one.Attrs...), textNode(0, "x")))
		}
	}
	for _, n := range []int{161, 162, 200, 240, 241, 300} {
		for _, one := range startsOfSize(n) {
			wantOpenCode(t, one.Name, one.Attrs, impl.ErrLarge)
			nodes := nodesOf(textNode(-1, "x"), element(-1, one.Name, one.Attrs...))
			wantCodes(t, nodes, 1, impl.ErrLarge, impl.ErrLarge, impl.ErrLarge)
		}
	}
	wantAsText(t, nodesOf(sized(-1, 160)), `<b a="`+strings.Repeat("x", 152)+`"></b>`)
}

// By the name alone a start stands at the bound, or does not.
func TestStartsAtTheBoundByName(t *testing.T) {
	value := strings.Repeat("x", 160-len(`<bcdefgh a="">`))
	wantOpen(t, "bcdefgh", []impl.Attr{attr("a", value)}, `<bcdefgh a="`+value+`">`)
	wantOpenCode(t, "bcdefghi", []impl.Attr{attr("a", value)}, impl.ErrLarge)
	wantOpenCode(t, "bcdefgh", []impl.Attr{attr("ab", value)}, impl.ErrLarge)
	wantOpenCode(t, "bcdefgh", []impl.Attr{attr("a", value), attr("b", "")}, impl.ErrLarge)
	wantOpenCode(t, "bcdefgh", []impl.Attr{attr("a", value[1:]+"\"")}, impl.ErrLarge)
	wantOpen(t, "bcdefgh", []impl.Attr{attr("a", value[6:]+"\"")}, `<bcdefgh a="`+value[6:]+`&quot;">`)
}

// A text has at most 240 bytes, of one Text, of many nodes, of ends, of what is escaped.
func TestTextsAtTheBoundOfWriting(t *testing.T) {
	x := strings.Repeat("x", 240)
	for _, c := range []struct {
		nodes []impl.Node
		size  int
	}{
		{nodesOf(textNode(-1, x[:239])), 239}, {nodesOf(textNode(-1, x)), 240},
		{nodesOf(textNode(-1, x[:239]+"<")), 243}, {nodesOf(textNode(-1, x[:236]+"<")), 240}, {nodesOf(textNode(-1, x[:237]+"<")), 241}, {nodesOf(textNode(-1, "<"+x[:237])), 241},
		{nodesOf(textNode(-1, strings.Repeat("\"", 40))), 240}, {nodesOf(textNode(-1, strings.Repeat("\"", 41))), 246}, {nodesOf(textNode(-1, strings.Repeat("&", 48))), 240}, {nodesOf(textNode(-1, strings.Repeat("&", 48)+"x")), 241},
		{nodesOf(element(-1, "b"), textNode(0, x[:233])), 240}, {nodesOf(element(-1, "b"), textNode(0, x[:234])), 241},
		{nodesOf(element(-1, "br"), textNode(-1, x[:236])), 240}, {nodesOf(element(-1, "br"), textNode(-1, x[:237])), 241}, {nodesOf(textNode(-1, x[:236]), element(-1, "br")), 240}, {nodesOf(textNode(-1, x[:237]), element(-1, "br")), 241},
		{nodesOf(sized(-1, 160), textNode(0, x[:76])), 240}, {nodesOf(sized(-1, 160), textNode(0, x[:77])), 241}, {nodesOf(sized(-1, 116), sized(-1, 116)), 240}, {nodesOf(sized(-1, 116), sized(-1, 117)), 241}, {nodesOf(sized(-1, 116), sized(0, 117)), 241},
		{slices.Repeat(nodesOf(element(-1, "br")), 60), 240}, {append(slices.Repeat(nodesOf(element(-1, "br")), 59), element(-1, "img")), 241}, {append(flatNodes(34), textNode(-1, "xx")), 240}, {append(flatNodes(34), textNode(-1, "xxx")), 241},
		{append(chainNodes(7), textNode(6, x[:191])), 240}, {append(chainNodes(7), textNode(6, x[:192])), 241}, {append(chainNodes(7), textNode(6, x[:191]), textNode(-1, "x")), 241},
	} {
		if got := len(textInside(c.nodes, -1)); got != c.size {
			t.Errorf("%s has %d bytes, not %d", briefNodes(c.nodes), got, c.size)
		}
		got := wantWriting(t, c.nodes)
		if large := c.size > 240; large != (got.Code == impl.ErrLarge) || !large && len(got.Bytes) != c.size {
			t.Errorf("WriteTree of %s: got %d, of %d bytes, want %d bytes", briefNodes(c.nodes), got.Code, len(got.Bytes), c.size)
		}
	}
}

// Only the ends of a tree leave the bound.
func TestEndsAtTheBoundOfWriting(t *testing.T) {
	for size := 225; size <= 245; size++ {
		var nodes []impl.Node
		for at := range 7 {
			nodes = append(nodes, element(int64(at)-1, "abcdefgh"))
		}
		nodes = append(nodes, textNode(6, strings.Repeat("x", size-7*21)))
		got := wantWriting(t, nodes)
		if (size > 240) != (got.Code == impl.ErrLarge) || size <= 240 && len(got.Bytes) != size {
			t.Errorf("WriteTree of %s: got %d, of %d bytes, want %d", briefNodes(nodes), got.Code, len(got.Bytes), size)
		}
	}
}

// What is in a node counts for that node, and what is beside it does not.
func TestNodesAtTheBoundOfWriting(t *testing.T) {
	x := strings.Repeat("x", 240)
	nodes := nodesOf(element(-1, "p"), textNode(0, x[:233]), textNode(-1, x))
	wantCodes(t, nodes, 0, impl.ErrLarge, impl.OK, impl.ErrLarge)
	wantNodeText(t, nodes, 0, "<p>"+x[:233]+"</p>")
	wantNodeText(t, nodes, 1, x[:233])
	wantNodeText(t, nodes, 2, x)
	nodes[1] = textNode(0, x[:234])
	wantCodes(t, nodes, 0, impl.ErrLarge, impl.ErrLarge, impl.ErrLarge)
	wantNodeText(t, nodes, 1, x[:234])
	wantCodes(t, nodesOf(element(-1, "p"), textNode(0, x[:234])), 0, impl.ErrLarge, impl.ErrLarge, impl.ErrLarge)
	wantNodeText(t, nodesOf(element(-1, "p"), element(0, "b"), textNode(1, x[:233]), element(0, "br")), 1, "<b>"+x[:233]+"</b>")
	wantNodeText(t, nodesOf(element(-1, "p"), element(0, "b"), textNode(1, x[:233]), element(0, "br")), 3, "<br>")
}

// Elements in elements up to the deepest; those that are too deep for a reader are written for all that.
func TestDeepWriting(t *testing.T) {
	for n := range impl.MaxDepth + 1 {
		wantAsText(t, chainNodes(n), strings.Repeat("<b>", n)+strings.Repeat("</b>", n))
		if n < impl.MaxDepth {
			nodes := append(chainNodes(n), textNode(int64(n)-1, "x"))
			wantAsText(t, nodes, strings.Repeat("<b>", n)+"x"+strings.Repeat("</b>", n))
			wantSpan(t, nodes, int64(n), impl.SpanResult{From: int64(3 * n), Size: 1})
		}
		for at := range n {
			wantSpan(t, chainNodes(n), int64(at), impl.SpanResult{From: int64(3 * at), Size: int64(7 * (n - at))})
			wantNodeText(t, chainNodes(n), int64(at), strings.Repeat("<b>", n-at)+strings.Repeat("</b>", n-at))
		}
	}
}

// The first, a middle and the last node, each of all kinds.
func TestSpansThatAreTold(t *testing.T) {
	nodes := nodesOf(element(-1, "br"), element(-1, "p", attr("a", "<")), textNode(1, "&"), element(1, "img"), element(1, "b"), textNode(4, "xy"), textNode(-1, "\""))
	wantAsText(t, nodes, `<br><p a="&lt;">&amp;<img><b>xy</b></p>&quot;`)
	for at, want := range []impl.SpanResult{{From: 0, Size: 4}, {From: 4, Size: 35}, {From: 16, Size: 5}, {From: 21, Size: 5}, {From: 26, Size: 9}, {From: 29, Size: 2}, {From: 39, Size: 6}} {
		wantSpan(t, nodes, int64(at), want)
	}
	flat := flatNodes(34)
	for at := range flat {
		wantSpan(t, flat, int64(at), impl.SpanResult{From: int64(7 * at), Size: 7})
	}
	wantSpan(t, flat, 34, impl.SpanResult{Code: impl.ErrRange})
}
