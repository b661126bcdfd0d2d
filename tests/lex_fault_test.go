package tests

import (
	"bytes"
	"fmt"
	"strings"
	"testing"

	"loop.example/g00606/impl"
)

// goodHeld are states without a fault: each place in a mark, and some that no text leads to.
func goodHeld() []string {
	return []string{
		"", "<", "<b", "</", "</b", "<b ", "<b/", "<b x", "<b x=", "<b x=\"", "<b x=\"y", "<b x=\"y\"", "<b x=\"<>", "<b x=\"y\" z=\"", "<B", "< ", "<&", "<&lt", "<\"", "<\"\"", "<\"\"\"",
		"<!", "<!-", "<!--", "<!---", "<!----", "<!-->", "<!--->", "<!-- x", "<!-- x-", "<!-- x--", "<!--\"", "<!--<b>", "<!\"--", "<!-- \"--",
		"&", "&l", "&lt", "&am", "&amp", "&quot", "&#", "&#6", "&#65", "&#255", "&#256", "&#0", "&abc", "&abcd", "&###",
		"<>", "<b>", "<b><", "<<", "<<b", "<!---->", "&;", "&;;", "&lt;", "&#1;", "&&", "&<", "&<b>", "&&lt", "&LT", "& ", "&\xff", "<\x00", "<\xff",
		filledUp(158, "<", "x", ""), filledUp(159, "<", "x", ""), filledUp(158, "<b \"", "x", ""), filledUp(159, "<b \"", "x", ""), filledUp(158, "<b", " ", ""), filledUp(159, "<b", " ", ""), filledUp(159, "<b x=\"", "y", "\""), filledUp(159, "<b x=\"", "y", "\"/"),
		filledUp(158, "<!--", "x", ""), filledUp(159, "<!--", "x", ""), filledUp(158, "<!--", "x", "--"), filledUp(159, "<!--", "x", "--"), filledUp(159, "<!--", "\"", ""), filledUp(159, "<", "<", ""), filledUp(159, "<", "&", ""),
	}
}

// badHeld are states with a fault, and their codes.
func badHeld() map[string]int64 {
	states := map[string]int64{}
	for _, n := range []int{160, 161, 240, 241, 255, 256, 257, 320, 416, 1000, 100000} {
		for _, c := range [][2]string{{"<", "x"}, {"<", "<"}, {"<!--", "x"}, {"<b \"", ">"}, {"<!--", "-"}} {
			states[filledUp(n, c[0], c[1], "")] = impl.ErrMany
		}
	}
	for _, n := range []int{6, 7, 8, 159, 160, 161, 240, 256, 262, 1000, 100000} {
		for _, one := range []string{"a", "&", "<", ";", "1", "\xff"} {
			states[filledUp(n, "&", one, "")] = impl.ErrMany
		}
	}
	for _, b := range allBytes() {
		if b == '<' || b == '&' {
			continue
		}
		for _, n := range []int{1, 2, 5, 6, 7, 159, 160, 161, 1000} {
			states[filledUp(n, string([]byte{b}), "<", "")] = impl.ErrForm
			states[strings.Repeat(string([]byte{b}), n)] = impl.ErrForm
		}
	}
	states["x&lt"], states[" <b"], states["\x00<"], states["lt"], states["b>"] = impl.ErrForm, impl.ErrForm, impl.ErrForm, impl.ErrForm, impl.ErrForm
	return states
}

func wantLexFault(t *testing.T, was string, code int64) {
	t.Helper()
	if got := impl.LexFault(held(was)); got != code {
		t.Errorf("LexFault of %d bytes, %.20q: got %d, want %d", len(was), was, got, code)
	}
}

func TestStatesWithoutAFault(t *testing.T) {
	for _, was := range goodHeld() {
		wantLexFault(t, was, impl.OK)
	}
	for n := 1; n < impl.MaxHeld; n++ {
		wantLexFault(t, filledUp(n, "<", "x", ""), impl.OK)
		wantLexFault(t, strings.Repeat("<", n), impl.OK)
	}
	for n := 1; n < 6; n++ {
		wantLexFault(t, filledUp(n, "&", "x", ""), impl.OK)
		wantLexFault(t, filledUp(n, "&", "<", ""), impl.OK)
	}
	for _, b := range allBytes() {
		wantLexFault(t, "<"+string([]byte{b}), impl.OK)
		wantLexFault(t, "&"+string([]byte{b}), impl.OK)
	}
	for _, nothing := range [][]byte{nil, {}, make([]byte, 0, 200)} {
		if code := impl.LexFault(impl.LexState{Held: nothing}); code != impl.OK {
			t.Errorf("LexFault of nothing held: got %d", code)
		}
	}
}

func TestStatesWithAFault(t *testing.T) {
	for was, code := range badHeld() {
		wantLexFault(t, was, code)
	}
	wantLexFault(t, strings.Repeat("<", 20000000), impl.ErrMany)
	wantLexFault(t, strings.Repeat("&", 20000000), impl.ErrMany)
	wantLexFault(t, strings.Repeat("x", 20000000), impl.ErrForm)
}

// The fault of a state is asked ahead of all else, whatever the byte or the data is.
func TestStatesWithAFaultAreNotFed(t *testing.T) {
	for was, code := range badHeld() {
		what := fmt.Sprintf("of %d bytes held, %.20q", len(was), was)
		for _, b := range []int64{-1, 0, '>', ';', '<', 255, 256} {
			wantNoLex(t, "FeedByte "+what, impl.FeedByte(held(was), b), code)
		}
		for _, n := range []int{0, 1, impl.MaxText, impl.MaxText + 1} {
			wantNoLex(t, "FeedAll "+what, impl.FeedAll(held(was), bytes.Repeat([]byte(">"), n)), code)
		}
		wantNoLex(t, "FinishLex "+what, impl.FinishLex(held(was)), code)
	}
}

func TestBytesThatCannotBeFed(t *testing.T) {
	for _, was := range goodHeld() {
		for _, b := range oddNumbers() {
			if b >= 0 && b <= 255 {
				wantStep(t, was, byte(b))
				continue
			}
			wantNoLex(t, fmt.Sprintf("FeedByte of %q with %d", was, b), impl.FeedByte(held(was), b), impl.ErrRange)
		}
		// These are a mark in their last eight bits.
		for _, b := range []int64{'<' + 256, '>' + 256, '&' - 256, ';' + 1<<32, '<' - 1<<62, 'a' + 512} {
			wantNoLex(t, fmt.Sprintf("FeedByte of %q with %d", was, b), impl.FeedByte(held(was), b), impl.ErrRange)
		}
	}
	for was, code := range map[string]int64{"x": impl.ErrForm, filledUp(160, "<", "x", ""): impl.ErrMany, "&abcde": impl.ErrMany} {
		for _, b := range oddNumbers() {
			wantNoLex(t, "FeedByte of both codes", impl.FeedByte(held(was), b), code)
		}
	}
}

func TestSizesOfDataThatIsFed(t *testing.T) {
	for _, one := range []string{"x", "<", "&", ">", "\"", ";", "\x00", "\xff"} {
		for _, n := range []int{0, 1, impl.MaxText - 1, impl.MaxText} {
			text := strings.Repeat(one, n)
			wantReadWhole(t, text)
			for _, was := range goodHeld() {
				wantLexed(t, fmt.Sprintf("FeedAll of %q with %d of %q", was, n, one), impl.FeedAll(held(was), []byte(text)), fedAll(was, text))
			}
		}
		for _, n := range []int{impl.MaxText + 1, impl.MaxText + 2, 255, 256, 257, 480, 512, 2000, 100000} {
			data := bytes.Repeat([]byte(one), n)
			wantNoLex(t, fmt.Sprintf("LexText of %d bytes", n), impl.LexText(data), impl.ErrLarge)
			for _, was := range []string{"", "<", "&", "<!--", filledUp(159, "<", "x", "")} {
				wantNoLex(t, fmt.Sprintf("FeedAll of %d bytes", n), impl.FeedAll(held(was), data), impl.ErrLarge)
			}
		}
	}
	wantNoLex(t, "LexText of very many bytes", impl.LexText(make([]byte, 20000000)), impl.ErrLarge)
}

// There may be more tokens of one call than MaxTokens: chapter 5 asks no code of that.
func TestAsManyTokensAsThereMayBe(t *testing.T) {
	was, data := filledUp(159, "<", "x", ""), strings.Repeat("y", impl.MaxText)
	got := impl.FeedAll(held(was), []byte(data))
	wantLexed(t, "FeedAll of 399 bytes", got, lexed{tokens: asBytes(was + data)})
	if len(got.Tokens) <= impl.MaxTokens {
		t.Errorf("FeedAll of 399 bytes: %d tokens", len(got.Tokens))
	}
}
