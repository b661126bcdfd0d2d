package tests

import (
	"strings"
	"testing"

	"loop.example/g00606/impl"
)

// noNames are texts that are none, each one close to one that is.
func noNames() []string {
	return []string{
		"", " ", "a ", " a", "a b", "A", "aB", "Ab", "`", "{", "a`", "a{", "a0", "0", "a1b", "a-b", "a_b", "a:b", "a.b", "a/", "/a", "a=", "a\"", "a'",
		"<", ">", "<a>", "a\x00", "\x00", "a\n", "\n", "\t", "é", "aé", "\x80", "\xe1", "\xff", "a\xff", "ａ",
		"abcdefghi", "aaaaaaaaa", "abcdefgH", "abcdefg ", "abcdefgh ", " abcdefgh", "abcdefg\x00", strings.Repeat("a", 16), strings.Repeat("a", 255), strings.Repeat("a", 256), strings.Repeat("a", 257), strings.Repeat("a", 100000),
	}
}

func TestNames(t *testing.T) {
	for _, name := range noNames() {
		if impl.IsName(name) {
			t.Errorf("IsName of %.40q: want false", name)
		}
	}
	for n := 1; n <= impl.MaxName; n++ {
		for _, letter := range "amz" {
			if name := strings.Repeat(string(letter), n); !impl.IsName(name) {
				t.Errorf("IsName of %q: want true", name)
			}
		}
	}
	for _, a := range allBytes() {
		one := string([]byte{a})
		for _, name := range []string{one, "a" + one, one + "a", "abcdefg" + one, one + "bcdefgh", "abc" + one + "efgh"} {
			if impl.IsName(name) != (a >= 'a' && a <= 'z') {
				t.Errorf("IsName of %q: got %v", name, impl.IsName(name))
			}
		}
	}
}

// What is no name is none anywhere in a tag.
func TestTagsWithoutNames(t *testing.T) {
	for _, name := range noNames() {
		// These are read as something else that is a tag, or as none.
		for _, text := range []string{"<" + name + ">", "</" + name + ">", "<" + name + "/>", "<a " + name + "=\"\">", "<a b=\"\" " + name + "=\"\"/>"} {
			wantRead(t, text)
		}
	}
	for _, name := range []string{"", "A", "0", "a1", "é", "abcdefghi", strings.Repeat("a", 100)} {
		for _, text := range []string{"<" + name + ">", "</" + name + ">", "<" + name + " />", "<a " + name + "=\"\">"} {
			wantNoTag(t, text, impl.ErrText)
		}
	}
	wantTag(t, "<abcdefgh abcdefgh=\"\">", start("abcdefgh", attr("abcdefgh", "")))
	wantTag(t, "</abcdefgh>", end("abcdefgh"))
}

func TestBlanks(t *testing.T) {
	many := strings.Repeat(" ", 100)
	plain := start("a", attr("b", "c"), attr("d", "e"))
	for text, want := range map[string]impl.Token{
		"<a>": start("a"), "<a >": start("a"), "<a   >": start("a"), "<a" + many + ">": start("a"),
		"<a/>": shut("a"), "<a />": shut("a"), "<a   />": shut("a"), "<a" + many + "/>": shut("a"),
		"<a b=\"c\" d=\"e\">": plain, "<a  b=\"c\"   d=\"e\">": plain, "<a" + many + "b=\"c\" d=\"e\">": plain, "<a b=\"c\"" + many + "d=\"e\">": plain,
		"<a b=\"c\" d=\"e\" >": plain, "<a b=\"c\" d=\"e\"   >": plain,
		"<a b=\"c\"/>": shut("a", attr("b", "c")), "<a b=\"c\" />": shut("a", attr("b", "c")), "<a b=\"c\"" + many + "/>": shut("a", attr("b", "c")),
		"<a b=\" c \">": start("a", attr("b", " c ")), "<a b=\" \">": start("a", attr("b", " ")),
		"</a>": end("a"),
	} {
		wantTag(t, text, want)
		wantRead(t, text)
	}
	for _, text := range []string{
		"< a>", "<  a>", " <a>", "<a> ", "<a/ >", "<a / >", "<a// >", "<a/  >", "< a/>", "< /a>", "</ a>", "</a >", "</ a >", "</a  >", " </a>", "</a> ",
		"<ab=\"c\">", "<a b=\"c\"d=\"e\">", "<a b =\"c\">", "<a b= \"c\">", "<a b=\"c\"/ >", "<a /b=\"c\">", "<a/b=\"c\">", "<a/ b=\"c\">",
		"<a b=\"c\" / d=\"e\">", "<a b=\"c\"/d=\"e\">", "<a b=\"c\" d =\"e\">",
		"<a\t>", "<a\n>", "<a\r>", "<a\x00>", "<a\u00a0>", "<a\tb=\"c\">", "<a\nb=\"c\">", "<a \tb=\"c\">", "<a b=\"c\"\t>", "<a b=\"c\"\n/>", "<a\t/>",
	} {
		wantNoTag(t, text, impl.ErrText)
	}
}

func TestAttributeForms(t *testing.T) {
	for _, text := range []string{
		"<a b>", "<a b=>", "<a b=c>", "<a b='c'>", "<a b=`c`>", "<a b=\"c>", "<a b=c\">", "<a b=\">", "<a b\"\">", "<a b\"c\">", "<a b=\"\"\">", "<a b=\"c\"\">",
		"<a =\"c\">", "<a \"c\">", "<a \"\">", "<a =>", "<a ==\"c\">", "<a b==\"c\">", "<a b=\"c\" d>", "<a b d=\"c\">", "<a b=\"c\" d=\">", "<a b=\"c\",d=\"e\">", "<a b=\"c\"=\"d\">",
		"<a b=\"c\"", "<a b=\"c\"/", "<a b=\"", "<a b=\"c", "<a b=", "<a b", "<a ", "<a b=&quot;c&quot;>", "<a b=\"c&quot;>", "<a B=\"c\">", "<a b-c=\"d\">", "</a b=\"c\">", "</a b>",
	} {
		wantNoTag(t, text, impl.ErrText)
	}
	for value, want := range map[string]string{
		"": "", "x": "x", "&lt;": "<", "&gt;": ">", "&amp;": "&", "&quot;": "\"", "&#65;": "A", "&#34;": "\"", "&#255;": "\xff", "&#1;": "\x01",
		"&bad;": "&bad;", "&": "&", "&#0;": "&#0;", "&#256;": "&#256;", "&#065;": "&#065;", "&LT;": "&LT;", "&lt": "&lt", "&amp;lt;": "&lt;", "&&lt;;": "&<;",
		"<": "<", ">": ">", "/": "/", "/>": "/>", "<b>": "<b>", "</a>": "</a>", "-->": "-->", "<!-- -->": "<!-- -->", "'": "'", "=": "=", " b=": " b=", "\x00": "\x00", "\n": "\n", "\x80\xff": "\x80\xff", "é": "é",
	} {
		wantTag(t, "<a b=\""+value+"\">", start("a", attr("b", want)))
		wantTag(t, "<a b=\""+value+"\"/>", shut("a", attr("b", want)))
		wantTag(t, "<a c=\""+value+"\"  b=\""+value+"\" >", start("a", attr("c", want), attr("b", want)))
		wantRead(t, "<a b=\""+value+"\">")
	}
}

func TestNotes(t *testing.T) {
	for _, text := range []string{
		"<!---->", "<!-- -->", "<!--x-->", "<!----->", "<!------>", "<!--->-->", "<!-->-->", "<!--<-->", "<!--\"-->", "<!-- \" -->", "<!---->-->", "<!-- --> -->", "<!-- --><!-- -->",
		"<!--<b>-->", "<!--\x00-->", "<!--\n-->", "<!--\xff\x80-->", "<!--é-->", "<!--&lt;-->", "<!-- <!-- -->", "<!---->x-->", "<!--" + strings.Repeat("-->", 52),
	} {
		wantTag(t, text, note())
		wantRead(t, text)
	}
	for _, text := range []string{
		"<!-->", "<!--->", "<!--", "<!---", "<!--x", "<!--x>", "<!--x->", "<!--x--", "<!--x- ->", "<!--x-- >", "<!--x-->y", "<!--x--> ", " <!--x-->", "<!-x-->", "<!x-->", "<--x-->", "< !--x-->", "<!--x--!>", "<! --x-->", "<!", "<!>", "<!->", "<!-", "<!a>", "<!doctype>",
	} {
		wantNoTag(t, text, impl.ErrText)
	}
}

func TestTextsThatAreNoTag(t *testing.T) {
	for _, text := range []string{
		"", "<", ">", "<>", "</>", "</", "</a/>", "</a/", "</a", "<a", "<a/", "/>", "a", "a>", "/a>", "<//a>", "<a//>", "<a>>", "<<a>", "<a>x", "x<a>", "<a></a>", "</a>x", "</a></a>", "<a/>x", "<a/>>", "<a/a>", "<a<b>", "<a \"b\">", "<?a?>", "<a?>",
		"&lt;a&gt;", "&lt;", "<&lt;>", "<a&lt;>", "plain", "\x00", "\n", "\x80", "\xff", "<\x80>", "<é>", "<a>\x00", "\x00<a>", "<A>", "</A>", "<1>", "<a1>", "<a>\n",
	} {
		wantNoTag(t, text, impl.ErrText)
	}
}

// heldTexts are texts of each kind with n bytes, and what they are where n is not too great.
func heldTexts(n int) map[string]impl.Token {
	fill := func(head, part, tail string) string {
		return head + strings.Repeat(part, n-len(head)-len(tail)) + tail
	}
	return map[string]impl.Token{
		fill("<!--", "x", "-->"):                  note(),
		fill("<!--", "-", "-->"):                  note(),
		fill("<a", " ", ">"):                      start("a"),
		fill("<a", " ", "/>"):                     shut("a"),
		fill("<a b=\"", "x", "\">"):               start("a", attr("b", strings.Repeat("x", n-8))),
		fill("<a b=\"", "\xff", "\"/>"):           shut("a", attr("b", strings.Repeat("\xff", n-9))),
		fill("<a b=\"", "<", "\">"):               start("a", attr("b", strings.Repeat("<", n-8))),
		fill("<a b=\"&lt;", ">", "&#65;\" >"):     start("a", attr("b", "<"+strings.Repeat(">", n-18)+"A")),
		fill("<a", " ", "b=\"\">"):                start("a", attr("b", "")),
		fill("<a b=\"\" c=\"", "z", "\" b=\"\">"): start("a", attr("b", ""), attr("c", strings.Repeat("z", n-18))),
	}
}

// noneOf are texts of n bytes that are no tag.
func noneOf(n int) []string {
	return []string{
		strings.Repeat("x", n), strings.Repeat("<", n), strings.Repeat("\xff", n), "<" + strings.Repeat("a", n-2) + ">", "</" + strings.Repeat("a", n-3) + ">",
		"</a" + strings.Repeat(" ", n-4) + ">", "<a" + strings.Repeat(" ", n-2), "<!--" + strings.Repeat("x", n-4), "<a b=\"" + strings.Repeat("x", n-7) + ">", "<a>" + strings.Repeat(" ", n-3),
	}
}

func TestTextsAtTheBound(t *testing.T) {
	for _, n := range []int{impl.MaxHeld - 1, impl.MaxHeld} {
		for text, want := range heldTexts(n) {
			wantTag(t, text, want)
			wantRead(t, text)
		}
		for _, text := range noneOf(n) {
			wantNoTag(t, text, impl.ErrText)
		}
	}
	for _, n := range []int{impl.MaxHeld + 1, impl.MaxHeld + 2, 240, 241, 255, 256, 257, 320, 2000, 2001, 100000} {
		for text := range heldTexts(n) {
			wantNoTag(t, text, impl.ErrLarge)
		}
		for _, text := range noneOf(n) {
			wantNoTag(t, text, impl.ErrLarge)
		}
	}
	wantNoTag(t, strings.Repeat("<", 10000000), impl.ErrLarge)
}

// A start has 160 bytes with this value, one more with the next byte; a byte with a reference has more than one.
func TestWritingAtTheBound(t *testing.T) {
	for _, one := range []string{"x", "<", ">", "&", "\"", "\xff", "\x00"} {
		size := len(escaped(one))
		for n := range 170 {
			value := strings.Repeat(one, n/size) + strings.Repeat("y", n%size)
			wantWritten(t, start("a", attr("b", value)))
			wantWritten(t, shut("abcdefgh", attr("b", value)))
			wantWritten(t, start("a", attr("b", value[:len(value)/2]), attr("c", value[len(value)/2:])))
			wantWritten(t, start("a", attr("b", ""), attr("c", value), attr("d", "")))
		}
	}
	exact := start("a", attr("b", strings.Repeat("x", 152)))
	if got := impl.WriteToken(exact); got.Code != impl.OK || len(got.Text) != 160 {
		t.Errorf("WriteToken of 160 bytes: got %+v", got)
	}
	exact.Shut = true
	if got := impl.WriteToken(exact); got != (impl.TextResult{Code: impl.ErrLarge}) {
		t.Errorf("WriteToken of 161 bytes: got %+v", got)
	}
}

// What is read may be too large to be written: what looked like a reference is escaped.
func TestReadButTooLargeToWrite(t *testing.T) {
	text := "<a b=\"" + strings.Repeat("&", 152) + "\">"
	token := start("a", attr("b", strings.Repeat("&", 152)))
	wantTag(t, text, token)
	if got := impl.WriteToken(token); got != (impl.TextResult{Code: impl.ErrLarge}) {
		t.Errorf("WriteToken of %s: got %+v", shown(token), got)
	}
	wantAttr(t, token, "b", impl.BytesResult{Bytes: token.Attrs[0].Value})
}

func TestVeryLargeTokens(t *testing.T) {
	for _, n := range []int{161, 239, 240, 241, 1000, 2000, 2001, 20000000} {
		for _, one := range []string{"x", "<", "\xff"} {
			token := start("a", attr("b", strings.Repeat(one, n)))
			wantFault(t, token, impl.OK)
			if got := impl.WriteToken(token); got != (impl.TextResult{Code: impl.ErrLarge}) {
				t.Errorf("WriteToken of a value of %d bytes: got %+v", n, got)
			}
			wantAttr(t, token, "b", impl.BytesResult{Bytes: token.Attrs[0].Value})
			wantAttr(t, token, "c", impl.BytesResult{Code: impl.ErrNone})
		}
	}
}

// Attributes without end: each of another name, the last one none, or there already.
func TestVeryManyAttributes(t *testing.T) {
	var attrs []impl.Attr
	wordsUpTo("abcdefghijklmnopqrstuvwxyz", 3, func(word string) {
		if word != "" {
			attrs = append(attrs, attr(word, word))
		}
	})
	token := start("a", attrs...)
	check := func(attrs []impl.Attr, code int64) {
		t.Helper()
		if got := impl.TokenFault(start("a", attrs...)); got != code {
			t.Errorf("TokenFault of %d attributes: got %d, want %d", len(attrs), got, code)
		}
	}
	check(attrs, impl.OK)
	check(append(attrs[:len(attrs):len(attrs)], attr("a", "")), impl.ErrForm)
	check(append(attrs[:len(attrs):len(attrs)], attr("zzz", "")), impl.ErrForm)
	check(append(attrs[:len(attrs):len(attrs)], attr("", "")), impl.ErrText)
	if got := impl.WriteToken(token); got != (impl.TextResult{Code: impl.ErrLarge}) {
		t.Errorf("WriteToken of %d attributes: got %+v", len(attrs), got)
	}
	if got := impl.AttrOf(token, "zzz"); got.Code != impl.OK || string(got.Bytes) != "zzz" {
		t.Errorf("AttrOf of %d attributes: got %+v", len(attrs), got)
	}
}
