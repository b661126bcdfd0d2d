package tests

import (
	"fmt"
	"math"
	"strings"
	"testing"

	"loop.example/g00606/impl"
)

func noRefs() []string {
	many := strings.Repeat("9", 1500)
	return []string{
		"&", "&#", "&;", "&#;", "&&", "&&#", "& ", "&#x", "x", ";", "lt;", "#65;",
		"&l", "&lt", "&g", "&gt", "&a", "&am", "&amp", "&q", "&qu", "&quo", "&quot", "&t;", "&l;", "&am;", "&quo;",
		"&LT;", "&Lt;", "&lT;", "&GT;", "&Gt;", "&AMP;", "&Amp;", "&QUOT;", "&Quot;", "&apos;", "&nbsp;", "&copy;",
		"&lt ;", "& lt;", "&lt,", "&lt\x00;", "&llt;", "&ltt;", "&lt:", "\xa6lt;",
		"&#0;", "&#00;", "&#000;", "&#01;", "&#09;", "&#065;", "&#001;", "&#0255;", "&#255", "&#6", "&#65", "&#2555",
		"&#256;", "&#257;", "&#260;", "&#300;", "&#321;", "&#999;", "&#1000;", "&#2550;", "&#65536;", "&#65601;",
		"&#4294967297;", "&#4294967361;", "&#9223372036854775807;", "&#18446744073709551616;", "&#18446744073709551681;",
		"&#" + many, "&#" + many + ";", "&#" + many + "1;", "&#" + strings.Repeat("0", 1500) + "65;",
		"&#-1;", "&#+1;", "&#+65;", "&#-0;", "&# 65;", "&#65 ;", "&#6 5;", "&#6_5;", "&#x41;", "&#X41;", "&#xa;", "&#a;", "&#1e1;", "&#6.;", "&#.6;",
		"&#0x1;", "&#0b1;", "&#0o7;", "&##65;", "&#65#;", "&#65&", "&#&lt;", "&65;", "&#;65;", "&#١;", "&#\xb2;", "&#/;", "&#:;", "&#6:;", "&#6/;",
	}
}

func TestWhatIsNoReference(t *testing.T) {
	for _, text := range noRefs() {
		wantRef(t, text, 0, impl.RefResult{Code: impl.ErrText})
		wantRef(t, "ab"+text, 2, impl.RefResult{Code: impl.ErrText})
		if len(text) < 100 {
			wantRefs(t, text)
		}
		wantDecoded(t, text, decoded(text))
	}
}

func TestEveryReference(t *testing.T) {
	for text, b := range references() {
		want := impl.RefResult{Byte: int64(b), Size: int64(len(text))}
		wantRef(t, text, 0, want)
		wantRef(t, text+"x", 0, want)
		wantRef(t, text+";", 0, want)
		wantRef(t, text+text, 0, want)
		wantRef(t, text+text, want.Size, want)
		wantRef(t, "&#"+text, 2, want)
		wantRef(t, strings.Repeat("é<", 900)+text, 2700, want)
		wantRefs(t, text)
		wantDecoded(t, text, string([]byte{b}))
		wantDecoded(t, "&"+text+"&", "&"+string([]byte{b})+"&")
		for size := 1; size < len(text); size++ {
			wantRef(t, text[:size], 0, impl.RefResult{Code: impl.ErrText})
			wantDecoded(t, text[:size], text[:size])
			wantDecoded(t, "a"+text[:size]+"&gt;", "a"+text[:size]+">")
		}
	}
}

func TestNumbersOfReferences(t *testing.T) {
	for n := range 3000 {
		text := fmt.Sprintf("&#%d;", n)
		want := impl.RefResult{Code: impl.ErrText}
		if n >= 1 && n <= 255 {
			want = impl.RefResult{Byte: int64(n), Size: int64(len(text))}
		}
		wantRef(t, text, 0, want)
		wantRef(t, fmt.Sprintf("&#0%d;", n), 0, impl.RefResult{Code: impl.ErrText})
		wantRef(t, fmt.Sprintf("&#%d", n), 0, impl.RefResult{Code: impl.ErrText})
	}
}

// What was read is not read again: a byte that a reference stands for begins none.
func TestReferencesAreReadOnce(t *testing.T) {
	for text, want := range map[string]string{
		"":                  "",
		"&&lt;":             "&<",
		"&&&lt;;":           "&&<;",
		"&amp;lt;":          "&lt;",
		"&amp;amp;lt;":      "&amp;lt;",
		"&#38;lt;":          "&lt;",
		"&#38;#38;":         "&#38;",
		"&amp;#60;":         "&#60;",
		"&lt&gt;":           "&lt>",
		"&l&#116;;":         "&lt;",
		"&#&#54;5;":         "&#65;",
		"&#6&#53;;":         "&#65;",
		"&lt;&gt;&quot;":    "<>\"",
		"&lt;&LT;&lt":       "<&LT;&lt",
		"a&#1;b&#255;c":     "a\x01b\xffc",
		"&#195;&#169;":      "é",
		"<&bad;\"&#0;\x00>": "<&bad;\"&#0;\x00>",
	} {
		wantDecoded(t, text, want)
	}
	wantRef(t, "&&lt;", 0, impl.RefResult{Code: impl.ErrText})
	wantRef(t, "&&lt;", 1, impl.RefResult{Byte: '<', Size: 4})
	wantRef(t, "&amp;lt;", 0, impl.RefResult{Byte: '&', Size: 5})
	wantRef(t, "&amp;lt;", 4, impl.RefResult{Code: impl.ErrText})
}

func TestPlacesOfReferences(t *testing.T) {
	for _, text := range []string{"", "&", "&lt;", "a&lt;", "&#65;z", strings.Repeat("&lt;", 600)} {
		size := int64(len(text))
		for _, at := range []int64{-1, -2, -size - 1, size, size + 1, math.MaxInt32, math.MinInt32, math.MaxInt32 + 1, 1<<32 - 1, 1 << 32, 1<<32 + 1, -1 << 32, math.MaxInt64, math.MaxInt64 - 1, math.MinInt64, math.MinInt64 + 1} {
			wantRef(t, text, at, impl.RefResult{Code: impl.ErrRange})
		}
	}
	wantRef(t, "a;", 1, impl.RefResult{Code: impl.ErrText})
	wantRef(t, strings.Repeat("&lt;", 600), 2396, impl.RefResult{Byte: '<', Size: 4})
	wantRef(t, strings.Repeat("x", 100000)+"&#7;", 100000, impl.RefResult{Byte: 7, Size: 4})
}

func TestBytesThatAreNone(t *testing.T) {
	for _, b := range []int64{-1, -2, -128, -256, 256, 257, 316, 512, 65535, 65596, 1<<32 + 60, -(1 << 32) + 60, math.MaxInt32, math.MinInt32, math.MaxInt64, math.MaxInt64 - 1, math.MinInt64, math.MinInt64 + 60} {
		if got := impl.EscapeByte(b); got != (impl.TextResult{Code: impl.ErrRange}) {
			t.Errorf("EscapeByte of %d: got %+v", b, got)
		}
	}
}

// A byte is one byte, not a rune: from 128 on these are not the same.
func TestBytesFrom128(t *testing.T) {
	for b := 128; b < 256; b++ {
		if got := impl.EscapeByte(int64(b)); len(got.Text) != 1 || got.Text[0] != byte(b) {
			t.Errorf("EscapeByte of %d: got %q", b, got.Text)
		}
		wantDecoded(t, fmt.Sprintf("&#%d;", b), string([]byte{byte(b)}))
		wantDecoded(t, string([]byte{byte(b), byte(b)}), string([]byte{byte(b), byte(b)}))
	}
	if got := impl.EscapeByte(0); got != (impl.TextResult{Text: "\x00"}) {
		t.Errorf("EscapeByte of 0: got %+v", got)
	}
}

func TestSizesOfData(t *testing.T) {
	for _, one := range []string{"a", "<", "\"", "\x00", "\xff"} {
		for _, n := range []int{0, 1, impl.MaxText - 1, impl.MaxText} {
			wantReadBack(t, []byte(strings.Repeat(one, n)))
		}
		for _, n := range []int{impl.MaxText + 1, impl.MaxText + 2, 256, 512, 2000, 70000} {
			wantEscaped(t, []byte(strings.Repeat(one, n)), impl.TextResult{Code: impl.ErrLarge})
		}
	}
}

func TestSizesOfTexts(t *testing.T) {
	// Four and five bytes divide 2000, so that the last reference ends with the text.
	for _, one := range []string{"a", "&", "&lt;", "&amp;", "&#9;", "&#65;", "\xff"} {
		text := strings.Repeat(one, maxEscaped/len(one))
		wantDecoded(t, text, decoded(text))
		wantDecoded(t, text[1:], decoded(text[1:]))
		for _, large := range []string{text + "a", "a" + text, text + ";", text + text, strings.Repeat(text, 40)} {
			if got := impl.DecodeText(large); got.Code != impl.ErrLarge || len(got.Bytes) != 0 {
				t.Errorf("DecodeText of %d bytes: got code %d and %d bytes", len(large), got.Code, len(got.Bytes))
			}
		}
	}
	wantDecoded(t, "", "")
}
