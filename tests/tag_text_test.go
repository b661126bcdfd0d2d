package tests

import (
	"slices"
	"strings"
	"testing"

	"loop.example/g00606/impl"
)

// P5: what is written is read back, each field of it.
func TestTokensAreReadBack(t *testing.T) {
	for _, token := range goodTokens() {
		wantFault(t, token, impl.OK)
		wantWritten(t, token)
		text := impl.WriteToken(token)
		if text.Code != impl.OK {
			t.Errorf("WriteToken of %s: code %d", shown(token), text.Code)
		}
		if token.Kind == impl.TokByte {
			continue
		}
		got := impl.ReadTag(text.Text)
		if got.Code != impl.OK || !impl.SameTokens([]impl.Token{got.Token}, []impl.Token{token}) {
			t.Errorf("%s is read back from %q as %d, %s", shown(token), text.Text, got.Code, shown(got.Token))
		}
	}
}

// A byte is written as EscapeByte; that is no tag, whichever byte it is.
func TestBytesAreWritten(t *testing.T) {
	for b := range int64(256) {
		wantFault(t, byteToken(b), impl.OK)
		wantWritten(t, byteToken(b))
		if text := impl.WriteToken(byteToken(b)); text != impl.EscapeByte(b) {
			t.Errorf("WriteToken of the byte %d: got %+v", b, text)
		}
		wantNoTag(t, impl.WriteToken(byteToken(b)).Text, impl.ErrText)
	}
}

// P5: every byte is read back from a value, alone and beside each other one.
func TestEveryByteOfAValueIsReadBack(t *testing.T) {
	for _, a := range allBytes() {
		wantWritten(t, start("a", attr("b", string([]byte{a}))))
		for _, b := range allBytes() {
			wantWritten(t, shut("a", impl.Attr{Name: "b", Value: []byte{a, b}}, attr("c", "d")))
		}
	}
}

// Each byte as it stands, in each place of a tag.
func TestEveryByteInEveryPlace(t *testing.T) {
	for _, text := range []string{"<a>", "</a>", "<a/>", "<a />", "<a  b=\"c\" d=\"&lt;\" />", "<!--x-->", "<abcdefgh bcdefghi=\"\">"} {
		for at := range len(text) + 1 {
			wantRead(t, text[:at])
			wantRead(t, text[at:])
			for _, b := range allBytes() {
				wantRead(t, text[:at]+string([]byte{b})+text[at:])
				wantRead(t, text[:at]+string([]byte{b})+text[min(at+1, len(text)):])
			}
		}
	}
}

// All short texts of the bytes that tags are made of.
func TestShortTagTexts(t *testing.T) {
	wordsUpTo("<>/!- a", 5, func(word string) {
		wantRead(t, word)
	})
	wordsUpTo(" a=\"/>", 6, func(word string) {
		wantRead(t, "<a"+word)
	})
	wordsUpTo(" b=\"/", 6, func(word string) {
		wantRead(t, "<a b=\""+word+">")
	})
	wordsUpTo("->! <", 5, func(word string) {
		wantRead(t, "<!-"+word)
		wantRead(t, "<!--"+word+">")
	})
}

func tagParts() []string {
	parts := []string{
		" ", "  ", "/", ">", "<", "\"", "=", "-", "!", "a", "b", "\t", "\x80", "A", "1",
		" a=\"1\"", " a=\"2\"", " b=\"\"", "  b=\"x&amp;y\"", " c=\"&#34;\"", " d=\">\"", " e='1'", " f", " g=1", " abcdefghi=\"\"",
	}
	for _, value := range tagValues() {
		parts = append(parts, " v=\""+value+"\"", " w=\""+escaped(value)+"\"")
	}
	return parts
}

func TestMixedTags(t *testing.T) {
	parts := tagParts()
	good := parts[15:21]
	for seed := range uint32(4000) {
		wantRead(t, "<a"+mixed(parts, int(seed%7), seed)+">")
		wantRead(t, "<img"+mixed(good, int(seed%12), seed)+mixed([]string{"", " ", "/", " /"}, 1, seed)+">")
		wantRead(t, mixed(parts, int(seed%9), seed))
	}
}

// P5: of two attributes of one name the first one's Value counts, and no other one's.
func TestFirstOfOneNameCounts(t *testing.T) {
	for text, want := range map[string]impl.Token{
		"<a b=\"1\" b=\"2\">":                        start("a", attr("b", "1")),
		"<a b=\"\" b=\"2\">":                         start("a", attr("b", "")),
		"<a b=\"2\" b=\"\"/>":                        shut("a", attr("b", "2")),
		"<a b=\"1\" b=\"1\">":                        start("a", attr("b", "1")),
		"<a b=\"1\" c=\"2\" b=\"3\">":                start("a", attr("b", "1"), attr("c", "2")),
		"<a c=\"1\" b=\"2\" b=\"3\" c=\"4\">":        start("a", attr("c", "1"), attr("b", "2")),
		"<a b=\"1\" b=\"2\" b=\"3\" d=\"4\">":        start("a", attr("b", "1"), attr("d", "4")),
		"<a b=\"1\" bb=\"2\" b=\"3\" bb=\"4\" />":    shut("a", attr("b", "1"), attr("bb", "2")),
		"<b b=\"&lt;\" b=\"&gt;\">":                  start("b", attr("b", "<")),
		"<a a=\"1\" b=\"2\" c=\"3\" a=\"4\" e=\"\">": start("a", attr("a", "1"), attr("b", "2"), attr("c", "3"), attr("e", "")),
	} {
		wantTag(t, text, want)
		wantRead(t, text)
		for _, a := range want.Attrs {
			wantAttr(t, impl.ReadTag(text).Token, a.Name, impl.BytesResult{Bytes: a.Value})
		}
	}
	// One that does not count has still to be one.
	for _, text := range []string{"<a b=\"1\" b>", "<a b=\"1\" b=2>", "<a b=\"1\" b=\"2>", "<a b=\"1\"b=\"1\">"} {
		wantNoTag(t, text, impl.ErrText)
	}
}

// As many attributes as a tag has room for, all of one name, and each of another one.
func TestManyAttributes(t *testing.T) {
	wantTag(t, "<a"+strings.Repeat(" b=\"\"", 31)+">", start("a", attr("b", "")))
	var attrs []impl.Attr
	for i := range 26 {
		attrs = append(attrs, attr(string([]byte{byte('z' - i)}), ""))
	}
	wantWritten(t, start("a", attrs...))
	wantWritten(t, shut("a", append(attrs, attr("aa", ""), attr("bb", ""), attr("cc", ""))...))
	for _, a := range attrs {
		wantAttr(t, start("a", attrs...), a.Name, impl.BytesResult{})
	}
}

// What differs in one thing is not the same, whatever that is; a fault does not matter.
func TestSameTokens(t *testing.T) {
	all := append(goodTokens(), badTokens()...)
	for _, a := range all {
		for _, b := range all {
			want := shown(a) == shown(b)
			if impl.SameTokens([]impl.Token{a}, []impl.Token{b}) != want {
				t.Errorf("SameTokens of %s and %s: want %v", brief(a), brief(b), want)
			}
		}
	}
}

func TestSameLists(t *testing.T) {
	a, b := start("a", attr("b", "c")), end("a")
	lists := [][]impl.Token{{}, {a}, {b}, {a, b}, {b, a}, {a, a}, {a, b, a}, {a, b, b}, {impl.Token{}}, {impl.Token{}, impl.Token{}}}
	for i, x := range lists {
		for j, y := range lists {
			if impl.SameTokens(x, slices.Clone(y)) != (i == j) {
				t.Errorf("SameTokens of lists %d and %d: want %v", i, j, i == j)
			}
		}
	}
}

// The order of attributes is a part of a token, as each name and each value is.
func TestSameAttributes(t *testing.T) {
	one := func(attrs ...impl.Attr) []impl.Token { return []impl.Token{note(), start("a", attrs...)} }
	lists := [][]impl.Token{
		one(), one(attr("b", "")), one(attr("c", "")), one(attr("b", "x")), one(attr("b", "y")), one(attr("b", "xy")), one(attr("b", "\x00")),
		one(attr("b", "x"), attr("c", "y")), one(attr("c", "y"), attr("b", "x")), one(attr("b", "y"), attr("c", "x")), one(attr("b", "x"), attr("b", "x")),
	}
	for i, x := range lists {
		for j, y := range lists {
			if impl.SameTokens(x, y) != (i == j) {
				t.Errorf("SameTokens of %s and %s: want %v", shown(x[1]), shown(y[1]), i == j)
			}
		}
	}
}
