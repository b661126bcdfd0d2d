package tests

import (
	"fmt"
	"strings"
	"testing"

	"loop.example/g00606/impl"
)

func TestNothingHeld(t *testing.T) {
	for _, b := range allBytes() {
		want := lexed{tokens: list(byteToken(int64(b)))}
		if b == '<' || b == '&' {
			want = lexed{held: string([]byte{b})}
		}
		wantFed(t, "", b, want)
	}
}

// Every byte behind every state without a fault, also behind those that no text leads to.
func TestEveryByteBehindEveryState(t *testing.T) {
	for _, was := range goodHeld() {
		for _, b := range allBytes() {
			wantStep(t, was, b)
		}
	}
}

func TestReferencesAreClosed(t *testing.T) {
	for text, b := range references() {
		wantFed(t, text[:len(text)-1], ';', lexed{tokens: list(byteToken(int64(b)))})
	}
	for _, was := range []string{
		"&", "&#", "&l", "&lte", "&ltt", "&am", "&quo", "&bad", "&#0", "&#00", "&#01", "&#065", "&#256", "&#999", "&##1", "&1", "&65", "&#1a", "&a#", "&amp#", "&abcd", "&apos",
		// No text leads to these, but they have no fault.
		"&lt;", "&gt;", "&#1;", "&&lt", "&lt<", "& lt", "&LT", "&;", "&;;", "&;lt", "&\xff", "&#-1", "&#+1", "&# 1",
	} {
		wantFed(t, was, ';', lexed{tokens: asBytes(was + ";")})
	}
}

func TestReferencesGrow(t *testing.T) {
	for _, letter := range "abyz0189#" {
		one := string(letter)
		for n := 1; n <= 4; n++ {
			was := "&" + strings.Repeat(one, n-1)
			wantFed(t, was, one[0], lexed{held: was + one})
		}
		was := "&" + strings.Repeat(one, 4)
		wantFed(t, was, one[0], lexed{tokens: asBytes(was + one)})
		wantText(t, was+one+one+";", asBytes(was+one+one+";")...)
	}
	// With five bytes there may still be one to come, with six it is too late.
	wantFed(t, "&quo", 't', lexed{held: "&quot"})
	wantFed(t, "&quot", ';', lexed{tokens: list(byteToken('"'))})
	wantFed(t, "&quot", 't', lexed{tokens: asBytes("&quott")})
	wantFed(t, "&#25", '5', lexed{held: "&#255"})
	wantFed(t, "&#255", ';', lexed{tokens: list(byteToken(255))})
	wantFed(t, "&#255", '5', lexed{tokens: asBytes("&#2555")})
	wantText(t, "&quott;", asBytes("&quott;")...)
	wantText(t, "&abcde&lt;", joined(asBytes("&abcde"), asBytes("<"))...)
	wantText(t, "&abcd&lt;", joined(asBytes("&abcd"), asBytes("<"))...)
}

// What ends a reference that is none is fed again: it may begin something.
func TestWhatIsFedAgainBehindAReference(t *testing.T) {
	for _, was := range []string{"&", "&l", "&lt", "&amp", "&quot", "&#", "&#65", "&#255", "&;x"} {
		for _, b := range []byte{'A', 'Z', ' ', '>', '"', '/', '!', '-', '=', '\n', 0, '`', '{', ':', '$', '"', 127, 128, 255} {
			wantFed(t, was, b, lexed{tokens: asBytes(was + string([]byte{b}))})
		}
		wantFed(t, was, '<', lexed{asBytes(was), "<"})
		wantFed(t, was, '&', lexed{asBytes(was), "&"})
		if !strings.HasSuffix(was, "x") {
			wantText(t, was+"<b>", joined(asBytes(was), list(start("b")))...)
			wantText(t, was+"&lt;", joined(asBytes(was), asBytes("<"))...)
			wantText(t, was+"<!---->", joined(asBytes(was), list(note()))...)
			wantText(t, was+">"+was+"Q", asBytes(was+">"+was+"Q")...)
		}
	}
	wantText(t, "&&&lt;", asBytes("&&<")...)
	wantText(t, "&<&<", asBytes("&<&<")...)
}

func TestTagsAreClosed(t *testing.T) {
	for was, want := range map[string]impl.Token{
		"<b": start("b"), "<b ": start("b"), "<b/": shut("b"), "<abcdefgh": start("abcdefgh"), "</b": end("b"), "<!----": note(), "<!-- x --": note(), "<!-- > --": note(), "<!-- \" --": note(), "<!--<b>--": note(),
		"<a href=\"x\"": start("a", attr("href", "x")), "<a href=\"x>\"": start("a", attr("href", "x>")), "<a href=\"<\"": start("a", attr("href", "<")), "<a b=\"1\" b=\"2\" c=\"\"/": shut("a", attr("b", "1"), attr("c", "")),
		"<a b=\"&lt;&bad;\"": start("a", attr("b", "<&bad;")),
	} {
		wantFed(t, was, '>', lexed{tokens: list(want)})
		wantText(t, was+">", want)
		wantText(t, "x"+was+">>", byteToken('x'), want, byteToken('>'))
	}
	for _, was := range []string{
		"<", "</", "< b", "<b x", "<b x=1", "<B", "<b1", "<abcdefghi", "</b ", "</ b", "<b/ ", "<b\n", "<!", "<!-", "<!b", "<! ----", "<!- ---", "<?b?", "<b \"\"", "<b\"\"", "<a b=\"\"\"\"", "<a b=\"1\"c=\"2\"", "<//b", "<&lt;", "<a b=\"x\"\"y\"",
		// No text leads to these, but they have no fault.
		"<>", "<b>", "<b><", "<b><i", "<<", "<<b",
	} {
		wantFed(t, was, '>', lexed{tokens: asBytes(was + ">")})
	}
	wantText(t, "<x y>z", asBytes("<x y>z")...)
	wantText(t, "<>b>", asBytes("<>b>")...)
}

// A mark that begins another one lets go what is held, and stays itself.
func TestAnotherMarkBegins(t *testing.T) {
	for _, was := range []string{"<", "<b", "</b", "<b ", "<b/", "<!", "<!-", "<a b=\"c\"", "<\"\"", "<\"\"\"\"", "<&lt;", "< x y z", "<b>", "<<"} {
		wantFed(t, was, '<', lexed{asBytes(was), "<"})
	}
	wantText(t, "<<b>", joined(asBytes("<"), list(start("b")))...)
	wantText(t, "<x<i>", joined(asBytes("<x"), list(start("i")))...)
	wantText(t, "<a b=\"c\"<i>", joined(asBytes("<a b=\"c\""), list(start("i")))...)
	wantText(t, "<!-<!---->", joined(asBytes("<!-"), list(note()))...)
	wantText(t, "<<<", asBytes("<<<")...)
}

// Behind an odd number of quotes marks are held, behind an even one they are not.
func TestMarksInQuotes(t *testing.T) {
	for _, was := range []string{"<\"", "<b \"", "<a b=\"", "<a b=\"c", "<a b=\"c\" d=\"", "<\"\"\"", "<a \"<>\"\"", "</\"", "<!\"", "<!-\"", "<!\"--", "<!-\"-", "<\"!--", "<a b=\"<!--"} {
		wantFed(t, was, '>', lexed{held: was + ">"})
		wantFed(t, was, '<', lexed{held: was + "<"})
		wantFed(t, was, '"', lexed{held: was + "\""})
		wantFed(t, was, '&', lexed{held: was + "&"})
		wantFed(t, was, ';', lexed{held: was + ";"})
		even := was + "\""
		wantFed(t, even, '<', lexed{asBytes(even), "<"})
		wantFed(t, even, '"', lexed{held: even + "\""})
		wantStep(t, even, '>')
	}
	wantText(t, "<a b=\">\">", start("a", attr("b", ">")))
	wantText(t, "<a b=\"<i>\">", start("a", attr("b", "<i>")))
	wantText(t, "<a b=\"<!--\">-->", joined(list(start("a", attr("b", "<!--"))), asBytes("-->"))...)
	wantText(t, "<a b=\">", asBytes("<a b=\">")...)
	wantText(t, "<a b=\"\">\"<i>", joined(list(start("a", attr("b", ""))), asBytes("\""), list(start("i")))...)
	wantText(t, "\"<i>\"", joined(asBytes("\""), list(start("i")), asBytes("\""))...)
	wantText(t, "<\"<b>", asBytes("<\"<b>")...)
	wantText(t, "<\"\"<b>", joined(asBytes("<\"\""), list(start("b")))...)
	wantText(t, "<'<b>", joined(asBytes("<'"), list(start("b")))...)
	wantText(t, "<a b='>'>", asBytes("<a b='>'>")...)
	wantText(t, "<a b=\"&quot;>\">", start("a", attr("b", "\">")))
}

// A note holds quotes and marks, and is closed by the first end that it may have.
func TestNotesByteByByte(t *testing.T) {
	for _, was := range []string{"<!--", "<!---", "<!-->", "<!--->", "<!-- ", "<!--\"", "<!--\"\"", "<!--<", "<!-- <b> ", "<!-- - -", "<!--x-", "<!--->-", "<!--&lt"} {
		for _, b := range []byte("<>\"&;- x/!\x00\xff") {
			wantFed(t, was, b, lexed{held: was + string([]byte{b})})
		}
	}
	for _, was := range []string{"<!----", "<!-----", "<!-->--", "<!--->--", "<!-- --", "<!--\"--", "<!--<--", "<!--<b \"--", "<!---->--"} {
		wantFed(t, was, '>', lexed{tokens: list(note())})
		for _, b := range []byte("<\"&;- x/!") {
			wantFed(t, was, b, lexed{held: was + string([]byte{b})})
		}
	}
	wantFed(t, "<!-", '-', lexed{held: "<!--"})
	wantFed(t, "<!-", '>', lexed{tokens: asBytes("<!->")})
	wantFed(t, "<!", '<', lexed{asBytes("<!"), "<"})
	for text, want := range map[string]lexed{
		"<!--": {held: "<!--"}, "<!-->": {held: "<!-->"}, "<!--->": {held: "<!--->"}, "<!---->": {tokens: list(note())}, "<!-->-->": {tokens: list(note())}, "<!--->-->": {tokens: list(note())},
		"<!---->-->": {tokens: joined(list(note()), asBytes("-->"))}, "<!-- <b> -->": {tokens: list(note())}, "<!-- \" --><b>": {tokens: list(note(), start("b"))}, "<!--x--y-->": {tokens: list(note())},
		"<!-- <!-- --> -->": {tokens: joined(list(note()), asBytes(" -->"))}, "<!--><b>": {held: "<!--><b>"},
	} {
		wantLexed(t, text, impl.FeedAll(impl.LexState{}, []byte(text)), want)
		wantSingles(t, "", text)
	}
}

// filledUp is a text of n bytes: a head, as much of one byte as there has to be, and a tail.
func filledUp(n int, head, one, tail string) string {
	return head + strings.Repeat(one, n-len(head)-len(tail)) + tail
}

func TestTagsAtTheBoundAreClosed(t *testing.T) {
	for _, n := range []int{158, 159, 160} {
		for text, want := range heldTexts(n) {
			wantText(t, text, want)
			wantFed(t, text[:n-1], '>', lexed{tokens: list(want)})
			wantText(t, text+"x", want, byteToken('x'))
			wantText(t, "x"+text+"<b>", byteToken('x'), want, start("b"))
		}
	}
	// Of 161 bytes the first 160 are let go, and the mark that comes then ends nothing.
	for text := range heldTexts(161) {
		wantText(t, text, asBytes(text)...)
		wantText(t, text+"<b>", joined(asBytes(text), list(start("b")))...)
		wantReadWhole(t, text)
	}
}

func TestWhatIsNotClosedAtTheBound(t *testing.T) {
	for _, c := range [][2]string{{"<", "x"}, {"<b", " "}, {"<b \"", ">"}, {"<b \"", "<"}, {"</", "b"}, {"<!--", "x"}, {"<!--", ">"}, {"<!--", "<"}, {"<!--", "\""}, {"<", "&"}, {"<", "\xff"}} {
		text := filledUp(159, c[0], c[1], "")
		wantLexed(t, "159 bytes", impl.FeedAll(impl.LexState{}, []byte(text)), lexed{held: text})
		wantText(t, text, asBytes(text)...)
		one := c[1][0]
		wantFed(t, text[:158], one, lexed{held: text})
		wantFed(t, text, one, lexed{tokens: asBytes(text + c[1])})
		wantLexed(t, "160 bytes", impl.FeedAll(impl.LexState{}, []byte(text+c[1])), lexed{tokens: asBytes(text + c[1])})
		wantReadWhole(t, text+c[1]+c[1])
		wantText(t, text+c[1]+"<b>", joined(asBytes(text+c[1]), list(start("b")))...)
		wantText(t, text+c[1]+"&lt;", asBytes(text+c[1]+"<")...)
	}
	// With 159 bytes held a mark that ends nothing lets all go; one that begins another is held alone.
	plain, note, quoted := filledUp(159, "<", "x", ""), filledUp(159, "<!--", "x", ""), filledUp(159, "<\"", "x", "")
	wantFed(t, plain, '>', lexed{tokens: asBytes(plain + ">")})
	wantFed(t, plain, '<', lexed{asBytes(plain), "<"})
	wantFed(t, note, '>', lexed{tokens: asBytes(note + ">")})
	wantFed(t, note, '<', lexed{tokens: asBytes(note + "<")})
	wantFed(t, quoted, '>', lexed{tokens: asBytes(quoted + ">")})
	wantFed(t, quoted, '<', lexed{tokens: asBytes(quoted + "<")})
	wantFed(t, quoted, '"', lexed{tokens: asBytes(quoted + "\"")})
	wantFed(t, note[:158], '>', lexed{held: note[:158] + ">"})
	wantFed(t, quoted[:158], '<', lexed{held: quoted[:158] + "<"})
}

func TestFinish(t *testing.T) {
	for _, was := range goodHeld() {
		wantLexed(t, fmt.Sprintf("FinishLex of %q", was), impl.FinishLex(held(was)), lexed{tokens: asBytes(was)})
	}
	for _, was := range []string{"", "&", "&lt", "&quot", "<", "<b", "<a b=\"x>", "<!-- <b> &lt;"} {
		wantLexed(t, fmt.Sprintf("FinishLex of %q", was), impl.FinishLex(held(was)), lexed{tokens: asBytes(was)})
	}
}

func TestTextsWithoutAnEnd(t *testing.T) {
	wantText(t, "")
	for _, text := range []string{"<", "&", "<b", "<b ", "</b", "<b/", "<a b=\"c", "<a b=\"c>", "<a b=\"&lt;", "<!", "<!-", "<!--", "<!-->", "<!-- <b> &lt;", "<!-- --", "&lt", "&#65", "&#", "&quot", "&amp"} {
		wantText(t, text, asBytes(text)...)
		wantText(t, "x<b>&gt;"+text, joined(asBytes("x"), list(start("b")), asBytes(">"+text))...)
		if got := impl.LexText([]byte(text)); len(got.State.Held) != 0 {
			t.Errorf("LexText of %q: %q is held", text, got.State.Held)
		}
	}
}

func TestSameStates(t *testing.T) {
	states := []string{"", "<", "&", "<b", "<c", "<B", "<b ", "&l", "<bb", "b<", "<\x00", "x", "\x00", "\x00\x00", strings.Repeat("<", 159), strings.Repeat("<", 160), strings.Repeat("<", 1000), strings.Repeat("<", 999) + "&"}
	for i, a := range states {
		for j, b := range states {
			if impl.SameStates(held(a), held(b)) != (i == j) {
				t.Errorf("SameStates of %.20q and %.20q: want %v", a, b, i == j)
			}
		}
	}
	for _, a := range [][]byte{nil, {}, make([]byte, 0, 9)} {
		for _, b := range [][]byte{nil, {}, make([]byte, 0, 9)} {
			if !impl.SameStates(impl.LexState{Held: a}, impl.LexState{Held: b}) {
				t.Error("SameStates: nothing held is not the same as nothing")
			}
		}
		if impl.SameStates(impl.LexState{Held: a}, held("<")) || impl.SameStates(held("\x00"), impl.LexState{Held: a}) {
			t.Error("SameStates: nothing held is the same as something")
		}
	}
}
