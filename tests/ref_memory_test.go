package tests

import (
	"strings"
	"testing"

	"loop.example/g00606/impl"
)

// P1: no call changes the bytes it is given, nor the room behind them.
func TestEscapingChangesNoArgument(t *testing.T) {
	for _, text := range append(noRefs(), "a<b>&\"", string(allBytes()[:impl.MaxText]), strings.Repeat("<", impl.MaxText+1)) {
		data := roomyBytes([]byte(text))
		before := string(data[:cap(data)])
		impl.EscapeText(data)
		if string(data[:cap(data)]) != before {
			t.Errorf("EscapeText of %.40q changed it", text)
		}
	}
}

// P1: an answer is new memory, whichever of both is written to.
func TestEscapingSharesNoMemory(t *testing.T) {
	for _, text := range []string{"a", "plain", "a<b>&\"", "&lt;&#65;", string(allBytes()[:impl.MaxText])} {
		data := roomyBytes([]byte(text))
		got := impl.EscapeText(data)
		scribbleBytes(data)
		if got.Text != escaped(text) {
			t.Errorf("EscapeText of %q: what is written to its argument is seen in the answer", text)
		}
		given := strings.Clone(text)
		first, second := impl.DecodeText(given), impl.DecodeText(given)
		scribbleBytes(first.Bytes)
		if given != text || string(second.Bytes) != decoded(text) {
			t.Errorf("DecodeText of %q: what is written to an answer is seen elsewhere", text)
		}
		if impl.EscapeText([]byte("<&>\"")).Text != "&lt;&amp;&gt;&quot;" {
			t.Errorf("DecodeText of %q: what is written to an answer is seen in the names", text)
		}
	}
}

// P1: nil and an empty list are the same value.
func TestNoBytesAreEscapedAsNothing(t *testing.T) {
	for _, data := range [][]byte{nil, {}, make([]byte, 0, 9)} {
		wantEscaped(t, data, impl.TextResult{})
	}
	wantDecoded(t, "", "")
}

// P1: what is answered hangs on the arguments alone, not on what was called ahead of it.
func TestReferencesKeepNothing(t *testing.T) {
	parts := markParts()
	for round := range uint32(3) {
		for seed := range uint32(40) {
			text := mixed(parts, 30, seed)
			impl.EscapeByte(int64(round))
			impl.DecodeText(mixed(parts, 9, round+seed))
			wantRefs(t, text)
			wantDecoded(t, text, decoded(text))
			wantEscaped(t, []byte(text)[:min(len(text), impl.MaxText)], impl.TextResult{Text: escaped(text[:min(len(text), impl.MaxText)])})
		}
	}
}
