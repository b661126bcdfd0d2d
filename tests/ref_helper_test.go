package tests

import (
	"fmt"
	"slices"
	"strings"
	"testing"

	"loop.example/g00606/impl"
)

// maxEscaped is the document's bound of a text that references are read back from.
const maxEscaped = 2000

// named are the references by name, as the document lists them.
func named() map[string]byte {
	return map[string]byte{"&lt;": '<', "&gt;": '>', "&amp;": '&', "&quot;": '"'}
}

// references are all that there are, each one written out.
func references() map[string]byte {
	all := named()
	for n := 1; n <= 255; n++ {
		all[fmt.Sprintf("&#%d;", n)] = byte(n)
	}
	return all
}

// known is worked out once: tests ask it very often.
var known = references()

// refSize is how many bytes the reference has that text begins with, 0 if there is none.
// No reference has a semicolon but its last byte, so what ends with the first one is all there may be.
func refSize(text string) int {
	size := strings.IndexByte(text, ';') + 1
	if _, is := known[text[:size]]; is {
		return size
	}
	return 0
}

// decoded is what the document asks of a text that is not too large.
func decoded(text string) string {
	var data []byte
	for len(text) > 0 {
		size := refSize(text)
		if size == 0 {
			data, text = append(data, text[0]), text[1:]
			continue
		}
		data, text = append(data, known[text[:size]]), text[size:]
	}
	return string(data)
}

// escaped is what the document asks of bytes that are not too many.
func escaped(data string) string {
	text := ""
	for i := 0; i < len(data); i++ {
		one := data[i : i+1]
		for name, b := range named() {
			if b == data[i] {
				one = name
			}
		}
		text += one
	}
	return text
}

// wantRefs holds each place of a text against the references that are written out.
func wantRefs(t *testing.T, text string) {
	t.Helper()
	for at := range len(text) {
		want := impl.RefResult{Code: impl.ErrText}
		if size := refSize(text[at:]); size > 0 {
			want = impl.RefResult{Byte: int64(known[text[at:at+size]]), Size: int64(size)}
		}
		if got := impl.RefAt(text, int64(at)); got != want {
			t.Errorf("RefAt of %q at %d: got %+v, want %+v", text, at, got, want)
		}
	}
}

func wantRef(t *testing.T, text string, at int64, want impl.RefResult) {
	t.Helper()
	if got := impl.RefAt(text, at); got != want {
		t.Errorf("RefAt of %.40q at %d: got %+v, want %+v", text, at, got, want)
	}
}

func wantEscaped(t *testing.T, data []byte, want impl.TextResult) {
	t.Helper()
	if got := impl.EscapeText(data); got != want {
		t.Errorf("EscapeText of %q: got %+v, want %+v", data, got, want)
	}
}

func wantDecoded(t *testing.T, text string, want string) {
	t.Helper()
	if got := impl.DecodeText(text); got.Code != impl.OK || string(got.Bytes) != want {
		t.Errorf("DecodeText of %q: got code %d, %q, want %q", text, got.Code, got.Bytes, want)
	}
}

// sortedWords makes a list that came from a map the same one each time.
func sortedWords(words []string) []string {
	slices.Sort(words)
	return words
}

// mixed is a text of n parts, chosen by a row of numbers that seed begins.
func mixed(parts []string, n int, seed uint32) string {
	var text strings.Builder
	for range n {
		seed = seed*1664525 + 1013904223
		text.WriteString(parts[int(seed>>16)%len(parts)])
	}
	return text.String()
}

// wordsUpTo tells each word of at most n of these letters.
func wordsUpTo(letters string, n int, tell func(string)) {
	word := make([]byte, 0, n)
	var grow func()
	grow = func() {
		tell(string(word))
		if len(word) == n {
			return
		}
		for i := range len(letters) {
			word = append(word, letters[i])
			grow()
			word = word[:len(word)-1]
		}
	}
	grow()
}
