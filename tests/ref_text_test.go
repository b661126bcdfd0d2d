package tests

import (
	"fmt"
	"strings"
	"testing"

	"loop.example/g00606/impl"
)

func allBytes() []byte {
	data := make([]byte, 256)
	for i := range data {
		data[i] = byte(i)
	}
	return data
}

// P3: every byte is escaped and read back, alone and between others.
func TestEveryByteIsReadBack(t *testing.T) {
	for b := range 256 {
		text := impl.EscapeByte(int64(b))
		if text.Code != impl.OK || text.Text != escaped(string([]byte{byte(b)})) {
			t.Errorf("EscapeByte of %d: got %+v", b, text)
		}
		wantEscaped(t, []byte{byte(b)}, text)
		wantDecoded(t, text.Text, string([]byte{byte(b)}))
		wantDecoded(t, "x"+text.Text+";", "x"+string([]byte{byte(b)})+";")
	}
}

func TestEveryTwoBytesAreReadBack(t *testing.T) {
	for _, a := range allBytes() {
		for _, b := range allBytes() {
			wantReadBack(t, []byte{a, b})
		}
	}
}

// All bytes are more than MaxText; each of them stands in one of two texts.
func TestATextOfAllBytesIsReadBack(t *testing.T) {
	all := allBytes()
	wantReadBack(t, all[:impl.MaxText])
	wantReadBack(t, all[len(all)-impl.MaxText:])
	wantDecoded(t, string(all), string(all))
	wantDecoded(t, escaped(string(all)), string(all))
}

// wantReadBack is P3 of one text.
func wantReadBack(t *testing.T, data []byte) {
	t.Helper()
	text := impl.EscapeText(data)
	wantEscaped(t, data, impl.TextResult{Text: escaped(string(data))})
	wantDecoded(t, text.Text, string(data))
	if strings.ContainsAny(text.Text, "<>\"") {
		t.Errorf("EscapeText of %q: a mark may begin or end in %q", data, text.Text)
	}
	for at := range len(text.Text) {
		if text.Text[at] == '&' && impl.RefAt(text.Text, int64(at)).Code != impl.OK {
			t.Errorf("EscapeText of %q: no reference at %d of %q", data, at, text.Text)
		}
	}
}

func markParts() []string {
	parts := []string{"<", ">", "&", "\"", "#", ";", "a", "0", "9", "\x00", "\n", "\x80", "\xff", "é", "amp", "lt"}
	for text := range named() {
		parts = append(parts, text, text[:len(text)-1], strings.ToUpper(text))
	}
	for _, n := range []int{0, 1, 9, 10, 34, 38, 60, 62, 99, 100, 127, 128, 255, 256, 999, 1000} {
		parts = append(parts, fmt.Sprintf("&#%d;", n), fmt.Sprintf("&#%d", n), fmt.Sprintf("&#0%d;", n))
	}
	return sortedWords(parts)
}

func TestMixedTextsAreReadBack(t *testing.T) {
	parts := markParts()
	for seed := range uint32(400) {
		text := mixed(parts, int(seed%40), seed)
		wantRefs(t, text)
		wantDecoded(t, text, decoded(text))
		wantReadBack(t, []byte(text)[:min(len(text), impl.MaxText)])
	}
}

// P3: what was escaped twice is read back twice.
func TestEscapedTwiceIsReadBackTwice(t *testing.T) {
	texts := []string{"", "a", "<", ">", "&", "\"", "&lt;", "&amp;amp;", "&#38;", string(allBytes()[:120]), strings.Repeat("&", 48)}
	for _, data := range texts {
		once := impl.EscapeText([]byte(data))
		twice := impl.EscapeText([]byte(once.Text))
		if twice.Code != impl.OK || twice.Text != escaped(escaped(data)) {
			t.Errorf("%q escaped twice: %+v", data, twice)
		}
		wantDecoded(t, twice.Text, once.Text)
		wantDecoded(t, string(impl.DecodeText(twice.Text).Bytes), data)
	}
}

// All short texts of the bytes that references by number are made of.
func TestShortTextsByNumber(t *testing.T) {
	wordsUpTo("&#;0125", 6, func(word string) {
		wantRefs(t, word)
		wantDecoded(t, word, decoded(word))
	})
}

// All short texts of the bytes that references by name are made of.
func TestShortTextsByName(t *testing.T) {
	wordsUpTo("&;ltgamp", 5, func(word string) {
		wantRefs(t, word)
		wantDecoded(t, word, decoded(word))
	})
	wordsUpTo("quotQ;", 5, func(word string) {
		wantRefs(t, "&"+word+";")
		wantDecoded(t, "&"+word+";", decoded("&"+word+";"))
	})
}
