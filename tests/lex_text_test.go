package tests

import (
	"fmt"
	"strings"
	"testing"

	"loop.example/g00606/impl"
)

// lexTexts are texts of all that is told by tokens, well and badly marked, of at most MaxText bytes.
func lexTexts() []string {
	long := strings.Repeat("x", 230)
	return []string{
		"", "a", "plain text", "<", "&", ">", ";", "\"", "<<", "&&", "<&", "&<", "<>", "&;",
		"a<b>c</b>d", "<b><i>x</i></b>", "<br/><img src=\"a\" width=\"1.5\"/>", "a<b>&lt;<x<i>\"&bad", "</b></b", "< b>", "<b", "</", "<b/", "<b x", "<b x=\"", "<b x=\"y", "<b x=\"y\"",
		"<a href=\"x>\">", "<a href=\"x<y\">", "<a href=\"<b>\" title=\"&lt;\">z</a>", "<a href=\"x>y<z", "<a \"<\"<b>", "<a \">\">", "<a \"\">", "<a b=\"\"\">", "<a b=\"\"\"\">", "\"<b>\"", "<b>\"<i>",
		"<!---->", "<!-->", "<!--->", "<!-- a -->b", "<!-- <b> \" > -->c", "<!-->-->", "<!--->-->", "<!---->-->", "<!-- -- -->", "<!--\"-->\"", "<!-- <!-- --> -->", "<!-", "<!->", "<!-<b>", "<!\"-->\"", "<!--", "<!-- a",
		"&lt;", "&gt;&amp;&quot;", "&#65;&#1;&#255;", "&#0;", "&#256;", "&#065;", "&lt", "&lt&gt;", "&lt<b>", "&LT;", "&lt ;", "&amp;lt;", "&abcde", "&abcdef;", "&#65536;", "&quot;&quo;&quott;", "&&lt;;", "&#&#65;", "x&y&z", "&;&;", "&#;",
		"\x00\x01\xff\x80é", "<\x00>", "&\xff;", "<b\n>", "<B>", "<b>\n</b>\n",
		long, "<" + long, "&" + long, "<!--" + long, "<b \"" + long, long + "<b", long + "&am", "<!--" + long + "-->", "<b \"" + long + "\">",
		strings.Repeat("<", 240), strings.Repeat("&", 240), strings.Repeat(">", 240), strings.Repeat("\"", 240), strings.Repeat("<b>", 80), strings.Repeat("&lt;", 60), strings.Repeat("<!---->", 34), strings.Repeat("<a \"", 60), string(allBytes()[:240]), string(allBytes()[16:]),
	}
}

// lexParts are what mixed texts are made of: whole marks, and pieces of them.
func lexParts() []string {
	parts := []string{
		"<", ">", "&", ";", "\"", "#", "/", "!", "-", "--", "<!", "<!-", "<!--", "-->", " ", "=", "a", "b", "A", "0", "\n", "\x00", "\xff", "lt", "amp", "quot",
		"<b>", "</b>", "<br/>", "<a href=\"", "\">", "\"/>", " b=\"c\"", "<i x=\">\">", "<!-- x -->", "&lt;", "&amp;", "&quot;", "&#65;", "&#", "&#6", "&bad;", "text", strings.Repeat("x", 40), strings.Repeat(" ", 25),
	}
	return parts
}

func mixedText(n int, seed uint32) string {
	text := mixed(lexParts(), n, seed)
	return text[:min(len(text), impl.MaxText)]
}

// P6: every text has its tokens, each one right, and they stand for its bytes.
func TestEveryTextHasItsTokens(t *testing.T) {
	for _, text := range lexTexts() {
		wantReadWhole(t, text)
	}
	for seed := range uint32(6000) {
		wantReadWhole(t, mixedText(int(seed%40), seed))
	}
}

// P6: all short texts of the bytes that have a meaning.
func TestShortTextsHaveTheirTokens(t *testing.T) {
	wordsUpTo("<>&;\"a", 5, func(word string) {
		wantReadWhole(t, word)
	})
	wordsUpTo("<>/ a=\"", 4, func(word string) {
		wantReadWhole(t, "<a"+word)
		wantReadWhole(t, "<a b=\""+word+">")
	})
	wordsUpTo("<>!-\"", 5, func(word string) {
		wantReadWhole(t, "<!-"+word)
	})
	wordsUpTo("&#lt1;", 5, func(word string) {
		wantReadWhole(t, "&"+word)
	})
}

// wantPieces holds pieces that are fed one behind the other against all of them at once.
func wantPieces(t *testing.T, was string, pieces ...string) {
	t.Helper()
	once := impl.FeedAll(held(was), []byte(strings.Join(pieces, "")))
	parts := impl.LexResult{State: held(was)}
	for _, piece := range pieces {
		next := impl.FeedAll(parts.State, []byte(piece))
		if next.Code != impl.OK {
			t.Fatalf("FeedAll of %q with %q: code %d", parts.State.Held, piece, next.Code)
		}
		parts = impl.LexResult{Tokens: joined(parts.Tokens, next.Tokens), State: next.State}
	}
	wantLexed(t, fmt.Sprintf("%q with %q", was, pieces), parts, lexed{once.Tokens, string(once.State.Held)})
	if !impl.SameTokens(parts.Tokens, once.Tokens) || !impl.SameStates(parts.State, once.State) {
		t.Errorf("%q with %q: not the same as at once", was, pieces)
	}
}

// wantSingles holds bytes that are fed by FeedByte against all of them at once, and each state against its fault.
func wantSingles(t *testing.T, was string, data string) {
	t.Helper()
	once := impl.FeedAll(held(was), []byte(data))
	parts := impl.LexResult{State: held(was)}
	for i := range len(data) {
		next := impl.FeedByte(parts.State, int64(data[i]))
		if next.Code != impl.OK || impl.LexFault(next.State) != impl.OK {
			t.Fatalf("FeedByte of %q with %d: code %d, fault %d", parts.State.Held, data[i], next.Code, impl.LexFault(next.State))
		}
		parts = impl.LexResult{Tokens: joined(parts.Tokens, next.Tokens), State: next.State}
	}
	wantLexed(t, fmt.Sprintf("%q with the bytes of %q", was, data), parts, lexed{once.Tokens, string(once.State.Held)})
}

// P6: a text that is cut at any place, or at any two, has the tokens and the last state of all at once.
func TestPiecesAreAsAllAtOnce(t *testing.T) {
	for _, text := range lexTexts() {
		wantSingles(t, "", text)
		for i := range len(text) + 1 {
			wantPieces(t, "", text[:i], text[i:])
		}
		if len(text) > 20 {
			continue
		}
		for i := range len(text) + 1 {
			for j := i; j <= len(text); j++ {
				wantPieces(t, "", text[:i], text[i:j], text[j:])
			}
		}
	}
	for seed := range uint32(150) {
		text := mixedText(int(seed%40), seed)
		wantSingles(t, "", text)
		for i := range len(text) + 1 {
			wantPieces(t, "", text[:i], "", text[i:])
		}
	}
}

// P6: the same with something held, also what no text leads to.
func TestPiecesBehindAStateAreAsAllAtOnce(t *testing.T) {
	for n, was := range goodHeld() {
		for seed := range uint32(6) {
			text := mixedText(int(seed*3), seed+uint32(n)*7)
			wantSingles(t, was, text)
			wantLexed(t, fmt.Sprintf("FeedAll of %q with %q", was, text), impl.FeedAll(held(was), []byte(text)), fedAll(was, text))
			for i := range min(len(text), 30) {
				wantPieces(t, was, text[:i], text[i:])
			}
		}
	}
}

// P6: what is held at any place of a text, and what is behind it, lead to the text's tokens.
func TestATextIsEndedFromEveryPlace(t *testing.T) {
	for _, text := range lexTexts() {
		want := impl.LexText([]byte(text))
		for i := range len(text) + 1 {
			first := impl.FeedAll(impl.LexState{}, []byte(text[:i]))
			second := impl.FeedAll(first.State, []byte(text[i:]))
			last := impl.FinishLex(second.State)
			got := impl.LexResult{Tokens: joined(first.Tokens, second.Tokens, last.Tokens), State: last.State}
			wantLexed(t, fmt.Sprintf("%q and then %q", text[:i], text[i:]), got, lexed{tokens: want.Tokens})
		}
	}
}

// wantAsBytes holds a text, in parts where it is too large for one, against a token of each byte of data.
func wantAsBytes(t *testing.T, text string, data string) {
	t.Helper()
	if len(text) <= impl.MaxText {
		wantText(t, text, asBytes(data)...)
	}
	var all impl.LexResult
	for rest := text; len(rest) > 0; rest = rest[min(len(rest), impl.MaxText):] {
		next := impl.FeedAll(all.State, []byte(rest[:min(len(rest), impl.MaxText)]))
		all = impl.LexResult{Tokens: joined(all.Tokens, next.Tokens), State: next.State}
	}
	wantLexed(t, fmt.Sprintf("%q, in parts", text), all, lexed{tokens: asBytes(data)})
}

// P6: what was escaped is read as its bytes, one by one, whatever they are.
func TestWhatWasEscapedIsReadAsItsBytes(t *testing.T) {
	check := func(data string) {
		t.Helper()
		text := impl.EscapeText([]byte(data))
		if text.Code != impl.OK {
			t.Fatalf("EscapeText of %q: code %d", data, text.Code)
		}
		wantAsBytes(t, text.Text, data)
	}
	for _, text := range lexTexts() {
		check(text)
		if twice := impl.EscapeText([]byte(text)).Text; len(twice) <= impl.MaxText {
			check(twice)
		}
	}
	for _, a := range allBytes() {
		check(string([]byte{a}))
		for _, b := range allBytes() {
			check(string([]byte{a, b}))
		}
	}
	for seed := range uint32(1000) {
		check(mixedText(int(seed%40), seed))
	}
}

// P6: every reference is read as the byte that it stands for.
func TestReferencesAreReadAsTheirBytes(t *testing.T) {
	for text, b := range references() {
		wantText(t, text, byteToken(int64(b)))
		wantText(t, "x"+text+text+";", byteToken('x'), byteToken(int64(b)), byteToken(int64(b)), byteToken(';'))
		wantText(t, "<b>"+text+"</b>", start("b"), byteToken(int64(b)), end("b"))
	}
}

// P6: a text without marks is read as its bytes.
func TestATextWithoutMarksIsReadAsItsBytes(t *testing.T) {
	clean := strings.NewReplacer("<", "", "&", "")
	for _, text := range append(lexTexts(), ">", "b>", "/>", "-->", "lt;", "#65;", "\"b\"", "=\"\">", "!--", strings.Repeat("x", 240), strings.Repeat("\x00", 240), strings.Repeat("\xff", 240)) {
		plain := clean.Replace(text)
		wantAsBytes(t, plain, plain)
	}
	for seed := range uint32(1000) {
		plain := clean.Replace(mixedText(int(seed%40), seed))
		wantAsBytes(t, plain, plain)
	}
}

// What WriteToken writes is read as that token, whatever stands around it.
func TestWrittenTokensAreRead(t *testing.T) {
	for _, token := range goodTokens() {
		text := tagText(token)
		if len(text) > impl.MaxHeld {
			continue
		}
		wantText(t, text, token)
		wantText(t, "a"+text+"b", byteToken('a'), token, byteToken('b'))
		// Behind a mark a reference is held as a piece of a tag, and is none then.
		if token.Kind != impl.TokByte {
			wantText(t, "<"+text, byteToken('<'), token)
		}
		wantText(t, "&"+text+"&", joined(asBytes("&"), list(token), asBytes("&"))...)
		wantText(t, "\""+text+">", byteToken('"'), token, byteToken('>'))
		wantText(t, "<!-- -->"+text+text, note(), token, token)
	}
}
