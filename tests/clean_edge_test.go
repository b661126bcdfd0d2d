package tests

import (
	"strings"
	"testing"

	"loop.example/g00606/impl"
)

// The text of the stage itself, and one with something of every kind.
func TestASanitizedTextThatIsTold(t *testing.T) {
	p := policyOf("a b", "href", "http")
	wantOut(t, p, `<script>x</script><b>y<a href="js:z">w`, "<b>y<a>w</a></b>")
	wantOut(t, p, "<b>y", "<b>y</b>")
	wantOut(t, p, "<u>x</u>", "x")
	text := `<p title="one" onload="x">a & b<u>c<br/></u><img src="http:y" width="02.50"><!-- d --><style>e</style><p>f</i><a href="js:z" title="&lt;">g`
	wantOut(t, openPolicy(), text, `<p title="one">a &amp; bc<br><img src="http:y" width="2.5"></p><p>f<a title="&lt;">g</a></p>`)
	wantOut(t, impl.Policy{}, text, "a &amp; bcfg")
	nodes := impl.CleanTree(openPolicy(), []byte(text))
	wantNodes(t, "CleanTree", nodes, impl.NodesResult{Nodes: nodesOf(
		element(-1, "p", attr("title", "one")), textNode(0, "a & bc"), element(0, "br"), element(0, "img", attr("src", "http:y"), attr("width", "2.5")),
		element(-1, "p"), textNode(4, "f"), element(4, "a", attr("title", "<")), textNode(6, "g"),
	)})
}

// Of nothing nothing comes out, and it is clean, under every policy without a fault.
func TestAnEmptyText(t *testing.T) {
	for _, none := range [][]byte{nil, {}, make([]byte, 0, 9)} {
		for _, p := range rightPolicies() {
			if out := impl.SanitizeText(p, none); out.Code != impl.OK || len(out.Bytes) > 0 {
				t.Errorf("SanitizeText of nothing by %s: got %d, %q", briefPolicy(p), out.Code, out.Bytes)
			}
			if clean := impl.CleanTree(p, none); clean.Code != impl.OK || len(clean.Nodes) > 0 {
				t.Errorf("CleanTree of nothing by %s: got %d, %s", briefPolicy(p), clean.Code, briefNodes(clean.Nodes))
			}
			if !impl.IsClean(p, none) {
				t.Errorf("IsClean of nothing by %s: got false", briefPolicy(p))
			}
		}
		if out := impl.EscapeAll(none); out.Code != impl.OK || len(out.Bytes) > 0 {
			t.Errorf("EscapeAll of nothing: got %d, %q", out.Code, out.Bytes)
		}
	}
	wantStaysClean(t, impl.Policy{}, "")
	wantStaysClean(t, openPolicy(), "")
	// Texts of which nothing is left.
	for _, text := range []string{"</b>", "<!---->", "<!-- x -->", "<script>x</script>", "<style>", "<u></u>", "<u><i/></u>", "</u></b></p>", "<script>a</b>b<p>c"} {
		wantOut(t, impl.Policy{}, text, "")
	}
}

func TestTextWithoutMarks(t *testing.T) {
	for _, p := range []impl.Policy{{}, openPolicy(), policyOf("b", "", "")} {
		wantStaysClean(t, p, "x", "some text", " ", "\n", "a\tb\n", "a'b", "a=b/c", "\x00", "\x7f\x80\xff", "caf\xc3\xa9", "--", "#65;", "lt;")
	}
	for text, out := range map[string]string{">": "&gt;", "a > b": "a &gt; b", "\"": "&quot;", "a\"b\"": "a&quot;b&quot;", "-->x": "--&gt;x", "a&b": "a&amp;b", "<": "&lt;", "a < b": "a &lt; b", "1<2>3": "1&lt;2&gt;3"} {
		for _, p := range []impl.Policy{{}, openPolicy()} {
			wantOut(t, p, text, out)
		}
	}
}

// Marks that are not closed: elements have the ends that they lack, and what is no mark is text.
func TestMarksThatAreNotClosed(t *testing.T) {
	p := openPolicy()
	for text, out := range map[string]string{
		"<b>": "<b></b>", "<b>x": "<b>x</b>", "x<b>": "x<b></b>", "<b>x<i>y": "<b>x<i>y</i></b>", "<b><i>x</b>y</i>": "<b><i>x</i></b>y", "<b>x</i>y": "<b>xy</b>", "</b>x": "x", "x</b>": "x", "<b>x</b></b>y": "<b>x</b>y",
		"<b>x<br>y": "<b>x<br>y</b>", "<br>": "<br>", "<br>x</br>": "<br>x", "<img>x": "<img>x", "<b/>x": "<b></b>x", "<b />x": "<b></b>x", "<br/>": "<br>", "<p/>x": "<p></p>x",
		"<b": "&lt;b", "<b x": "&lt;b x", "</b": "&lt;/b", "<": "&lt;", "</": "&lt;/", "<>": "&lt;&gt;", "</>": "&lt;/&gt;", "< b>": "&lt; b&gt;", "</ b>": "&lt;/ b&gt;", "<B>x</B>": "&lt;B&gt;x&lt;/B&gt;", "<b<i>x": "&lt;b<i>x</i>",
		"<b x>": "&lt;b x&gt;", "<b x=y>": "&lt;b x=y&gt;", "<b x='y'>": "&lt;b x='y'&gt;", "<b title=\"x>y": "&lt;b title=&quot;x&gt;y", "<b title=\"x\"": "&lt;b title=&quot;x&quot;", "<b1>x": "&lt;b1&gt;x", "<abcdefghi>x": "&lt;abcdefghi&gt;x", "<b\n>": "&lt;b\n&gt;", "<<b>x": "&lt;<b>x</b>", "<b>>": "<b>&gt;</b>",
	} {
		wantOut(t, p, text, out)
	}
}

// What is dropped goes with all that is in it, to its end or to that of the text.
func TestWhatIsDropped(t *testing.T) {
	for _, p := range []impl.Policy{openPolicy(), policyOf("b p script style", "", "")} {
		for _, tag := range []string{"script", "style"} {
			open, end := "<"+tag+">", "</"+tag+">"
			wantOut(t, p, open+"x"+end, "")
			wantOut(t, p, "a"+open+"x"+end+"b", "ab")
			wantOut(t, p, open+"x<b>y</b>"+end+"z", "z")
			wantOut(t, p, "<b>a"+open+"x</b>b", "<b>a</b>b")
			wantOut(t, p, "a"+open+"x<b>y", "a")
			wantOut(t, p, open+open+"x"+end+"y"+end+"z", "z")
			wantOut(t, p, open+"<p>x"+end+"<p>y", "<p>y</p>")
			wantOut(t, p, "<p>a"+open+"x<p>y"+end+"z", "<p>a</p><p>yz</p>")
			wantOut(t, p, "<"+tag+"/>x", "x")
			wantOut(t, p, "<"+tag+" title=\"y\">x"+end+"z", "z")
			wantOut(t, p, "<u>"+open+"x"+end+"y</u>", "y")
			wantOut(t, p, open+"x</u></b>y", "")
			wantOut(t, p, end+"x", "x")
			wantOut(t, p, "<"+tag+"s>x</"+tag+"s>", "x")
		}
	}
}

// What is not kept leaves what is in it where it stands.
func TestWhatIsNotKept(t *testing.T) {
	p := policyOf("b br", "title", "")
	for text, out := range map[string]string{
		"<u>x</u>": "x", "a<u>b</u>c": "abc", "<u><b>x</b></u>": "<b>x</b>", "<b><u>x</u></b>": "<b>x</b>", "<u>a<b>b</b>c</u>d": "a<b>b</b>cd", "<u><i><p>x</p></i></u>": "x", "<p>x<b>y<i>z": "x<b>yz</b>",
		"<u/>x": "x", "<img>x": "x", "<a href=\"x\">y</a>": "y", "<u title=\"x\">y": "y", "<b><u>x</b>y</u>": "<b>x</b>y", "<div><br></div>": "<br>", "<u></u>": "",
	} {
		wantOut(t, p, text, out)
	}
	// As many as a reader opens, and one more that it leaves out, whatever is kept of them.
	for n := range 10 {
		in := min(n, 7)
		wantOut(t, p, strings.Repeat("<b>", n)+"x"+strings.Repeat("</b>", n), strings.Repeat("<b>", in)+"x"+strings.Repeat("</b>", in))
		want := "<b>x</b>"
		if n >= 7 {
			want = "x"
		}
		wantOut(t, p, strings.Repeat("<u>", n)+"<b>x", want)
	}
}

// A p in a p ends the one that it is in, right in it and further out; what was not kept brings none of them together.
func TestAPInAPOfAText(t *testing.T) {
	p := policyOf("b i p", "", "")
	for text, out := range map[string]string{
		"<p>a<p>b": "<p>a</p><p>b</p>", "<p>a<p>b</p>c</p>d": "<p>a</p><p>b</p>cd", "<p>a<b>b<p>c</b>d": "<p>a<b>b</b></p><p>cd</p>", "<p>a<b>b<i>c<p>d": "<p>a<b>b<i>c</i></b></p><p>d</p>",
		"<b><p>a<p>b</b>c": "<b><p>a</p><p>b</p></b>c", "<p><p><p>": "<p></p><p></p><p></p>", "<p>a</p><p>b</p>": "<p>a</p><p>b</p>", "<p/>a<p/>b": "<p></p>a<p></p>b",
		"<p>a<u>b<p>c</u>d": "<p>ab</p><p>cd</p>", "<u><p>a</u><p>b": "<p>a</p><p>b</p>", "<u><p>a<u><p>b</u>c</u>d": "<p>a</p><p>b</p>cd", "<p><u><u><p>x</u></u>y": "<p></p><p>xy</p>", "<p>a<script><p>b</script>c": "<p>a</p><p>bc</p>",
	} {
		wantOut(t, p, text, out)
	}
	wantOut(t, policyOf("b", "", ""), "<p>a<p>b<b>c", "ab<b>c</b>")
}

func TestNotesGo(t *testing.T) {
	for _, p := range []impl.Policy{{}, policyOf("b", "", "")} {
		for text, out := range map[string]string{
			"<!-- x -->": "", "a<!-- x -->b": "ab", "a<!---->b": "ab", "<!--<b>x</b>-->y": "y", "<!--a--><!--b-->c": "c", "<!-- \" -->x": "x", "<!-- > -->x": "x", "<!--x-->-->": "--&gt;",
			"<!-- x": "&lt;!-- x", "<!-->x": "&lt;!--&gt;x", "<!--->x": "&lt;!---&gt;x", "<!- x -->": "&lt;!- x --&gt;", "<!x>": "&lt;!x&gt;",
		} {
			wantOut(t, p, text, out)
		}
	}
	wantOut(t, policyOf("b", "", ""), "<b>a<!-- </b> -->b", "<b>ab</b>")
}

func TestMarksInQuotesThatComeOut(t *testing.T) {
	p := policyOf("a b", "title", "")
	for text, out := range map[string]string{
		`<a title="<b>">x</a>`: `<a title="&lt;b&gt;">x</a>`, `<a title=">">x`: `<a title="&gt;">x</a>`, `<a title="</a>">x</a>y`: `<a title="&lt;/a&gt;">x</a>y`, `<a title="&quot;">x`: `<a title="&quot;">x</a>`, `<a title="&amp;lt;">x`: `<a title="&amp;lt;">x</a>`,
		`<a title="a&b">x`: `<a title="a&amp;b">x</a>`, `<a title="'">x`: `<a title="'">x</a>`, `<a title="<!--">x-->`: `<a title="&lt;!--">x--&gt;</a>`, `<a title="<script>">x`: `<a title="&lt;script&gt;">x</a>`,
		`<u title="><b>">x`: "x", `<a x="<b>">y`: "<a>y</a>",
	} {
		wantOut(t, p, text, out)
	}
	wantOut(t, policyOf("a", "title", ""), `<a title="&quot;&gt;&lt;b&gt;">x`, `<a title="&quot;&gt;&lt;b&gt;">x</a>`)
}

func TestReferencesOfATextThatComesOut(t *testing.T) {
	for _, p := range []impl.Policy{{}, openPolicy()} {
		wantStaysClean(t, p, "&lt;", "&gt;", "&amp;", "&quot;", "&amp;lt;", "&amp;amp;", "&lt;b&gt;x&lt;/b&gt;", "&lt;script&gt;")
		for text, out := range map[string]string{
			"&#60;": "&lt;", "&#62;": "&gt;", "&#38;": "&amp;", "&#34;": "&quot;", "&#65;": "A", "&#255;": "\xff", "&#0;": "&amp;#0;", "&#065;": "&amp;#065;", "&#256;": "&amp;#256;",
			"&": "&amp;", "&lt": "&amp;lt", "&x;": "&amp;x;", "&LT;": "&amp;LT;", "&;": "&amp;;", "&&lt;": "&amp;&lt;", "& lt;": "&amp; lt;", "&#x3c;": "&amp;#x3c;", "&nbsp;": "&amp;nbsp;", "&#60;b&#62;": "&lt;b&gt;", "&#38;lt;": "&amp;lt;", "&lt;b>": "&lt;b&gt;", "<&#98;>": "&lt;&amp;#98;&gt;",
		} {
			wantOut(t, p, text, out)
		}
	}
}

// A width turns to its own text, or goes.
func TestWidthsOfATextThatComesOut(t *testing.T) {
	p := policyOf("img", "width", "")
	for value, own := range map[string]string{"7": "7", "007.50": "7.5", "7.0": "7", "0": "0", "-0": "0", "-0.0": "0", "1.25": "1.25", "1.250": "1.25", "0.750": "0.75", "0000": "0", "9.5": "9.5", "&#55;": "7"} {
		wantOut(t, p, `<img width="`+value+`">`, `<img width="`+own+`">`)
	}
	for _, value := range []string{"", "-1", "nan", "inf", "-inf", "1.1", "x", " 7", "7 ", "12345", "1e3", "7px", ".5", "5.", "+1", "0x10"} {
		wantOut(t, p, `<img width="`+value+`">`, "<img>")
	}
	wantOut(t, p, `<img width="x" width="1">`, "<img>")
}

func TestLinksOfATextThatComesOut(t *testing.T) {
	p := policyOf("a img", "href src", "http mailto")
	for _, name := range []string{"href", "src"} {
		for _, value := range []string{"http:x", "HTTP:x", "hTTp:", "mailto:x", "x", "", "/x", "#x", "?x", "/js:x", "?js:x", "#js:x", "12345678"} {
			wantStaysClean(t, p, `<a `+name+`="`+value+`">y</a>`, `<img `+name+`="`+value+`">`)
		}
		for _, value := range []string{"js:x", "JS:x", "https:x", "data:x", "file:x", ":x", ":", "x1:y", " js:x", "j s:x", "j\ts:x", "j\ns:x", "&#106;s:x", "js&#58;x", "\x01js:x", "http:abcd", "\xffhttp:x", "ht-p:x", "x y"} {
			wantOut(t, p, `<a `+name+`="`+value+`">y`, "<a>y</a>")
		}
	}
	wantOut(t, p, `<a href="&#104;ttp:x">y</a>`, `<a href="http:x">y</a>`)
	wantOut(t, policyOf("a", "href", ""), `<a href="http:x">y</a>`, "<a>y</a>")
	wantOut(t, policyOf("a", "href", "js"), `<a href="js:x">y</a>`, "<a>y</a>")
	wantOut(t, policyOf("a", "", "http"), `<a href="http:x">y</a>`, "<a>y</a>")
}

func TestAttributesOfATextThatComesOut(t *testing.T) {
	p := policyOf("b", "href onload style title width", "")
	for text, out := range map[string]string{
		`<b title="x">`: `<b title="x"></b>`, `<b  title="x"  >`: `<b title="x"></b>`, `<b title="x"/>`: `<b title="x"></b>`, `<b onload="x">`: "<b></b>", `<b style="x">`: "<b></b>", `<b onload="x" title="y">`: `<b title="y"></b>`,
		`<b title="x" title="y">`: `<b title="x"></b>`, `<b title="too long " title="y">`: "<b></b>", `<b width="1" title="x">`: `<b width="1" title="x"></b>`, `<b title="x" width="1">`: `<b title="x" width="1"></b>`,
		`<b title="x" width="1" href="y">`: `<b title="x" width="1"></b>`, `<b title="long long" width="1" href="y">`: `<b width="1" href="y"></b>`, `<b title="">`: `<b title=""></b>`, `<b title="12345678">`: `<b title="12345678"></b>`, `<b title="123456789">`: "<b></b>", `<b title="a b">`: "<b></b>",
	} {
		wantOut(t, p, text, out)
	}
}
