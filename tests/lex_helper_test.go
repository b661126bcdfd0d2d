package tests

import (
	"fmt"
	"regexp"
	"strings"
	"testing"

	"loop.example/g00606/impl"
)

// lexed is what the document asks of bytes that are fed: tokens, and what is held behind them.
type lexed struct {
	tokens []impl.Token
	held   string
}

func held(text string) impl.LexState {
	return impl.LexState{Held: []byte(text)}
}

// asBytes is a token of each byte, as they are let go.
func asBytes(text string) []impl.Token {
	var tokens []impl.Token
	for i := range len(text) {
		tokens = append(tokens, byteToken(int64(text[i])))
	}
	return tokens
}

func list(tokens ...impl.Token) []impl.Token {
	return tokens
}

// joined is lists one behind the other, in memory of their own.
func joined(lists ...[]impl.Token) []impl.Token {
	var all []impl.Token
	for _, tokens := range lists {
		all = append(all, tokens...)
	}
	return all
}

// shownAll tells all of a list of tokens, bytes as they stand.
func shownAll(tokens []impl.Token) string {
	var text strings.Builder
	for _, token := range tokens {
		if shown(token) == shown(byteToken(token.Byte)) && token.Byte >= 0 && token.Byte <= 255 {
			fmt.Fprintf(&text, " %q", string([]byte{byte(token.Byte)}))
			continue
		}
		fmt.Fprintf(&text, " {%s}", shown(token))
	}
	return text.String()
}

func quoted(text string) bool {
	return !strings.HasPrefix(text, "<!--") && strings.Count(text, "\"")%2 == 1
}

var refLetter = regexp.MustCompile(`\A[a-z0-9#]\z`)

// fedByte is what the document asks of one byte, case by case, of a state without a fault.
func fedByte(was string, b byte) lexed {
	both := was + string([]byte{b})
	switch {
	case was == "" && (b == '<' || b == '&'):
		return lexed{held: both}
	case was == "":
		return lexed{tokens: asBytes(both)}
	case was[0] == '&' && b == ';' && refSize(both) == len(both):
		return lexed{tokens: list(byteToken(int64(known[both])))}
	case was[0] == '&' && b == ';':
		return lexed{tokens: asBytes(both)}
	case was[0] == '&' && refLetter.MatchString(both[len(was):]):
		return heldBelow(both, 6)
	case was[0] == '&':
		next := fedByte("", b)
		return lexed{joined(asBytes(was), next.tokens), next.held}
	case b == '>' && !quoted(was):
		if tag := tagIn(both); tag.Code == impl.OK {
			return lexed{tokens: list(tag.Token)}
		}
		if strings.HasPrefix(was, "<!--") {
			return heldBelow(both, impl.MaxHeld)
		}
		return lexed{tokens: asBytes(both)}
	case b == '<' && !quoted(was) && !strings.HasPrefix(was, "<!--"):
		return lexed{asBytes(was), "<"}
	}
	return heldBelow(both, impl.MaxHeld)
}

// heldBelow is bytes that are held, or let go where there are as many as the bound.
func heldBelow(text string, bound int) lexed {
	if len(text) >= bound {
		return lexed{tokens: asBytes(text)}
	}
	return lexed{held: text}
}

// fedAll is what the document asks of bytes one by one.
func fedAll(was string, data string) lexed {
	all := lexed{held: was}
	for i := range len(data) {
		next := fedByte(all.held, data[i])
		all = lexed{append(all.tokens, next.tokens...), next.held}
	}
	return all
}

// What stands at the beginning of a text, looked at whole: a note with its end, a tag
// up to the first mark that is not in quotes, and what may be a reference.
var (
	noteAhead = regexp.MustCompile(`(?s)\A<!--.*?-->`)
	tagAhead  = regexp.MustCompile(`(?s)\A<(?:[^<>"]|"[^"]*")*`)
	refAhead  = regexp.MustCompile(`\A&[a-z0-9#]{0,5}`)
)

// unitAhead is how many bytes a text begins with that are told at one time, and their
// tokens; 0, if they are still held when it is at its end.
func unitAhead(text string) (int, []impl.Token) {
	window := text[:min(len(text), impl.MaxHeld)]
	switch {
	case text[0] == '&':
		return refUnit(text, refAhead.FindString(text))
	case text[0] != '<':
		return 1, asBytes(text[:1])
	case strings.HasPrefix(text, "<!--"):
		if found := noteAhead.FindString(window); found != "" {
			return len(found), list(note())
		}
	default:
		if size := len(tagAhead.FindString(window)); size < len(window) && window[size] != '"' {
			return tagUnit(window, size)
		}
	}
	if len(window) == impl.MaxHeld {
		return impl.MaxHeld, asBytes(window)
	}
	return 0, nil
}

func refUnit(text string, run string) (int, []impl.Token) {
	switch {
	case len(run) == 6:
		return 6, asBytes(run)
	case len(run) == len(text):
		return 0, nil
	case text[len(run)] != ';':
		return len(run), asBytes(run)
	}
	whole := text[:len(run)+1]
	if b, is := known[whole]; is {
		return len(whole), list(byteToken(int64(b)))
	}
	return len(whole), asBytes(whole)
}

// tagUnit is of a text in which the mark at size ends what began, or begins another one.
func tagUnit(text string, size int) (int, []impl.Token) {
	if text[size] == '<' {
		return size, asBytes(text[:size])
	}
	if tag := tagIn(text[:size+1]); tag.Code == impl.OK {
		return size + 1, list(tag.Token)
	}
	return size + 1, asBytes(text[:size+1])
}

// wholeText is what the document asks of a text with nothing held, worked out by looking ahead, not byte by byte.
func wholeText(text string) lexed {
	var all lexed
	for len(text) > 0 {
		size, tokens := unitAhead(text)
		if size == 0 {
			all.held = text
			return all
		}
		all.tokens = append(all.tokens, tokens...)
		text = text[size:]
	}
	return all
}

// standsFor tells whether tokens may be what stands in a text: each one as it may be
// written there, one behind the other, up to its end.
func standsFor(tokens []impl.Token, text string) bool {
	at := map[int]bool{0: true}
	for _, token := range tokens {
		next := map[int]bool{}
		for from := range at {
			for _, size := range sizesOf(token, text[from:]) {
				next[from+size] = true
			}
		}
		at = next
	}
	return at[len(text)]
}

// sizesOf is how many bytes a token may have of those that a text begins with.
func sizesOf(token impl.Token, text string) []int {
	var sizes []int
	if token.Kind == impl.TokByte {
		if len(text) > 0 && int64(text[0]) == token.Byte {
			sizes = append(sizes, 1)
		}
		if size := refSize(text); size > 0 && int64(known[text[:size]]) == token.Byte {
			sizes = append(sizes, size)
		}
		return sizes
	}
	for size := 1; size <= min(len(text), impl.MaxHeld); size++ {
		if text[size-1] != '>' {
			continue
		}
		if tag := tagIn(text[:size]); tag.Code == impl.OK && shown(tag.Token) == shown(token) {
			sizes = append(sizes, size)
		}
	}
	return sizes
}

// wantLexed holds an answer with no code against what it has to be.
func wantLexed(t *testing.T, what string, got impl.LexResult, want lexed) {
	t.Helper()
	if got.Code != impl.OK || shownAll(got.Tokens) != shownAll(want.tokens) || string(got.State.Held) != want.held {
		t.Errorf("%s: got code %d,%s, held %q, want%s, held %q", what, got.Code, shownAll(got.Tokens), got.State.Held, shownAll(want.tokens), want.held)
	}
}

// wantNoLex holds an answer against a code beside which all else is zero.
func wantNoLex(t *testing.T, what string, got impl.LexResult, code int64) {
	t.Helper()
	if got.Code != code || len(got.Tokens) != 0 || len(got.State.Held) != 0 {
		t.Errorf("%s: got code %d, %d tokens, %d bytes held, want the code %d and nothing else", what, got.Code, len(got.Tokens), len(got.State.Held), code)
	}
}

func wantFed(t *testing.T, was string, b byte, want lexed) {
	t.Helper()
	wantLexed(t, fmt.Sprintf("FeedByte of %q with %q", was, string([]byte{b})), impl.FeedByte(held(was), int64(b)), want)
}

// wantText holds a text, all that is done to it at once, against tokens that are told.
func wantText(t *testing.T, text string, tokens ...impl.Token) {
	t.Helper()
	wantLexed(t, fmt.Sprintf("LexText of %q", text), impl.LexText([]byte(text)), lexed{tokens: tokens})
}

// wantStep holds a byte that is fed to a state against the document, case by case.
func wantStep(t *testing.T, was string, b byte) {
	t.Helper()
	wantFed(t, was, b, fedByte(was, b))
}

// wantReadWhole holds a text against the document, byte by byte and whole, and what is told against the text.
func wantReadWhole(t *testing.T, text string) {
	t.Helper()
	want := wholeText(text)
	if steps := fedAll("", text); shownAll(steps.tokens) != shownAll(want.tokens) || steps.held != want.held {
		t.Errorf("%q: the test's own ways differ", text)
	}
	wantLexed(t, fmt.Sprintf("FeedAll of %q", text), impl.FeedAll(impl.LexState{}, []byte(text)), want)
	got := impl.LexText([]byte(text))
	wantLexed(t, fmt.Sprintf("LexText of %q", text), got, lexed{tokens: joined(want.tokens, asBytes(want.held))})
	for _, token := range got.Tokens {
		if code := impl.TokenFault(token); code != impl.OK {
			t.Errorf("LexText of %q: %s has the fault %d", text, shown(token), code)
		}
	}
	if !standsFor(got.Tokens, text) {
		t.Errorf("LexText of %q:%s do not stand for its bytes", text, shownAll(got.Tokens))
	}
}
