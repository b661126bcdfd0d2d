package tests

import (
	"fmt"
	"slices"
	"strings"
	"testing"

	"loop.example/g00606/impl"
)

func TestSafeTags(t *testing.T) {
	got := impl.SafeTags()
	if got.Code != impl.OK || !slices.Equal(got.Words, tagsThatAreSafe()) || !slices.IsSorted(got.Words) {
		t.Errorf("SafeTags: got %+v", got)
	}
}

// oddTags are names and other words that are no safe tag, and no dropped one.
func oddTags() []string {
	odd := []string{"c", "aa", "ab", "ba", "bb", "brr", "ii", "im", "imgg", "pp", "pre", "div", "scrip", "scripts", "styles", "styl", "href", "http", "A", "B", "BR", "Br", "bR", "IMG", "Img", "P", "SCRIPT", "Script", "STYLE", "Style", "a ", " a", "a\x00", "b\n"}
	return append(odd, noNames()...)
}

func TestDroppedTags(t *testing.T) {
	for _, tag := range []string{"script", "style"} {
		if !impl.IsDropped(tag) {
			t.Errorf("IsDropped of %q: want true", tag)
		}
	}
	for _, tag := range append(oddTags(), tagsThatAreSafe()...) {
		if impl.IsDropped(tag) {
			t.Errorf("IsDropped of %.40q: want false", tag)
		}
	}
}

func TestMayTag(t *testing.T) {
	open, bare := openPolicy(), impl.Policy{}
	wide := policyOf("a b br div i img p script style w", "", "")
	for _, tag := range tagsThatAreSafe() {
		alone := policyOf(tag, "", "")
		if !impl.MayTag(open, tag) || !impl.MayTag(wide, tag) || !impl.MayTag(alone, tag) || impl.MayTag(bare, tag) {
			t.Errorf("MayTag of %q: it is so where Tags has it", tag)
		}
		for _, other := range tagsThatAreSafe() {
			if impl.MayTag(alone, other) != (other == tag) {
				t.Errorf("MayTag of %q, where Tags has %q: got %v", other, tag, other != tag)
			}
		}
		// Where it stands among attributes or schemes it is no tag.
		if impl.MayTag(policyOf("", tag, tag), tag) {
			t.Errorf("MayTag of %q, where Attrs and Schemes have it: got true", tag)
		}
	}
	for _, tag := range append(oddTags(), "script", "style", "div", "w", "href", "http") {
		if impl.MayTag(open, tag) || impl.MayTag(wide, tag) || impl.MayTag(bare, tag) || impl.MayTag(impl.Policy{Tags: []string{tag}}, tag) {
			t.Errorf("MayTag of %.40q: want false", tag)
		}
	}
}

// Beside a fault no tag may be, wherever it is.
func TestMayTagBesideFaults(t *testing.T) {
	for _, lists := range badLists() {
		for _, words := range lists {
			for number := range 3 {
				p := withList(openPolicy(), number, words)
				for _, tag := range append(tagsThatAreSafe(), "", "script") {
					if impl.MayTag(p, tag) {
						t.Errorf("MayTag of %q by %s: got true", tag, briefPolicy(p))
					}
				}
			}
		}
	}
	if impl.MayTag(policyOf("p p", "", ""), "p") || impl.MayTag(policyOf("b a", "", ""), "a") {
		t.Error("MayTag: a tag that is there twice, or does not rise, may be")
	}
}

func TestSchemes(t *testing.T) {
	none := impl.TextResult{Code: impl.ErrNone}
	for value, want := range map[string]impl.TextResult{
		"": none, ":": none, "::": none, ":a": none, ":a:": none, "a": none, "http": none, "http//x": none,
		"a:": {Text: "a"}, "z:": {Text: "z"}, "A:": {Text: "a"}, "Z:": {Text: "z"}, "a::": {Text: "a"}, "a:b:c": {Text: "a"}, "a:1:": {Text: "a"},
		"http:x": {Text: "http"}, "HTTP:x": {Text: "http"}, "hTtP:X": {Text: "http"}, "mailto:": {Text: "mailto"}, "MAILTO:A:B": {Text: "mailto"}, "javascript:x": {Text: "javascript"},
		"a:\x00\xff": {Text: "a"}, "a:/?#": {Text: "a"},
		"a1:x": none, "1:x": none, "1a:x": none, "a :x": none, " a:x": none, "a b:x": none, "a\x00:x": none, "\x00a:x": none, "\x00:": none,
		"a\x7f:": none, "a\x80:x": none, "\x80:x": none, "a\xff:x": none, "\xff:": none, "é:x": none, "htt\xe1:x": none,
		"a/b:x": none, "/:": none, "?:": none, "#:": none, "a-b:x": none, "a+b:x": none, "a.b:x": none, "a\n:x": none, "\na:x": none,
		"@:": none, "[:": none, "`:": none, "{:": none, "a@:": none, "a[:": none, "a`:": none, "a{:": none,
		// Letters beyond ASCII that turn to a to z when they are lowered: the sign of kelvin.
		"\u212a:": none, "a\u212a:": none, "lin\u212a:x": none, "ma\u0130lto:x": none,
	} {
		wantScheme(t, value, want)
	}
}

func TestEveryByteAheadOfAColon(t *testing.T) {
	for b := range 256 {
		for _, form := range []string{"%s:", "a%s:", "%sa:", "a%sa:x", "a:%s", "a:%s:", "%s"} {
			value := fmt.Sprintf(form, []byte{byte(b)})
			wantScheme(t, value, schemeIn(value))
		}
	}
}

func TestSizesOfSchemes(t *testing.T) {
	long := strings.Repeat("Ab", 200)
	for _, size := range []int{238, 239, 240, 241, 242, 300, 100000} {
		want := impl.TextResult{Code: impl.ErrLarge}
		if size <= impl.MaxText {
			want = impl.TextResult{Text: strings.ToLower(long[:size-1])}
		}
		if size <= len(long) {
			wantScheme(t, long[:size-1]+":", want)
		}
		short := "b:" + strings.Repeat("x", size-2)
		if size <= impl.MaxText {
			wantScheme(t, short, impl.TextResult{Text: "b"})
		} else {
			wantScheme(t, short, want)
			wantScheme(t, strings.Repeat("/", size), want)
		}
	}
	wantScheme(t, strings.Repeat("a", 240), impl.TextResult{Code: impl.ErrNone})
	wantScheme(t, strings.Repeat("a", 241), impl.TextResult{Code: impl.ErrLarge})
	wantScheme(t, ":"+strings.Repeat("a", 239), impl.TextResult{Code: impl.ErrNone})
	wantScheme(t, ":"+strings.Repeat("a", 240), impl.TextResult{Code: impl.ErrLarge})
}

func TestShortSchemes(t *testing.T) {
	wordsUpTo("aZ:/1\x80", 5, func(value string) {
		wantScheme(t, value, schemeIn(value))
	})
}

// Schemes behind a path: a ":" asks for a scheme, but where a path, a question or a place is ahead of it.
func TestSchemesBehindAPath(t *testing.T) {
	p := policyOf("", "href src title", "http js mailto")
	kept := []string{
		"", "x", "/", "?", "#", "/:", "?:", "#:", "/x:", "?x:", "#x:", "/js:x", "?js:x", "#js:x", "x/:", "x?:", "x#:", "js/:", "js/x:y", "js?x:y", "js#x:y", "a/b:c:d", "//:", "/:/:", "./a:b", ".?:", "1/:",
		"http:", "http:x", "http:/", "http:/:", "http:?:", "http:#:", "http::", "HTTP:x", "hTTp:", "mailto:", "mailto:a", "MAILTO:a",
	}
	barred := []string{
		":", ":x", "::", ":/", ":?", ":#", ":/:", "x:", "x:/", "x:?", "x:#", "x:y/", "x:y/:", "x::/", "js:", "js:x", "js:/", "js:/x", "js:?", "js:#", "JS:x", "Js:",
		"https:", "https:/x", "HTTPS:x", "ftp:x", "ht:tp:", "a1:", "1:", "http1:", "h-p:", "h.p:", "@:", "%:", "htt:p", "httpx:", "hhttp:", ".:", ".:/", "&:", "\\:", "\\:/",
	}
	for _, name := range []string{"href", "src"} {
		for _, value := range kept {
			wantValue(t, p, name, value, impl.TextResult{Text: value})
		}
		for _, value := range barred {
			wantValue(t, p, name, value, impl.TextResult{Code: impl.ErrState})
		}
	}
	// A title is no link: a ":" means nothing in it.
	for _, value := range append(kept, barred...) {
		wantValue(t, p, "title", value, impl.TextResult{Text: value})
	}
}

// Each safe scheme where Schemes has it, has others, has none; in letters of both cases.
func TestSafeSchemes(t *testing.T) {
	schemes := map[string]string{"http": "http:x", "https": "https:x", "mailto": "mailto:x"}
	for _, name := range []string{"href", "src"} {
		for scheme, value := range schemes {
			for _, value := range []string{value, strings.ToUpper(value), strings.ToUpper(value[:1]) + value[1:]} {
				wantValue(t, policyOf("", name, scheme), name, value, impl.TextResult{Text: value})
				wantValue(t, policyOf("", name, "http https mailto"), name, value, impl.TextResult{Text: value})
				wantValue(t, policyOf("", name, "ftp http https js mailto"), name, value, impl.TextResult{Text: value})
				wantValue(t, policyOf("", name, ""), name, value, impl.TextResult{Code: impl.ErrState})
				for other := range schemes {
					if other != scheme {
						wantValue(t, policyOf("", name, other), name, value, impl.TextResult{Code: impl.ErrState})
					}
				}
			}
		}
		for _, scheme := range []string{"js", "data", "file", "ftp", "httpx", "htt", "mail", "a", "title"} {
			for _, value := range []string{scheme + ":", strings.ToUpper(scheme) + ":x"} {
				wantValue(t, policyOf("", name, scheme), name, value, impl.TextResult{Code: impl.ErrState})
			}
		}
	}
}

func TestCleanValues(t *testing.T) {
	p := openPolicy()
	for _, name := range []string{"href", "src", "title"} {
		for _, value := range []string{"", "!", "~", "!!!!!!!!", "~~~~~~~~", "12345678", "a", "\"", "<", ">", "&", "'", "&lt;", "<b>"} {
			wantValue(t, p, name, value, impl.TextResult{Text: value})
		}
		for _, value := range []string{"123456789", "!!!!!!!!!", "1234567890", " ", "\x7f", "\x80", "\xff", "\x00", "\x1f", "\n", "\t", "a b", " a", "a ", "1234567 ", "\x001234567", "123\x7f4567", "1234567\x80", "é", "12345678\x00", strings.Repeat("x", 240), strings.Repeat("x", 241)} {
			wantValue(t, p, name, value, impl.TextResult{Code: impl.ErrText})
		}
		for b := range 256 {
			want := impl.TextResult{Code: impl.ErrText}
			for _, form := range []string{"%s", "/%s", "/%sx", "/12345%s"} {
				value := fmt.Sprintf(form, []byte{byte(b)})
				if b >= 33 && b <= 126 {
					want = impl.TextResult{Text: value}
				}
				if value != ":" || name == "title" {
					wantValue(t, p, name, value, want)
				}
			}
		}
	}
}

// Widths that turn: what is kept is the width's own text, whatever the value was.
func TestWidthsThatTurn(t *testing.T) {
	p := policyOf("", "width", "")
	for value, want := range map[string]string{
		"0": "0", "1": "1", "7.5": "7.5", "9999": "9999", "9999.75": "9999.75", "0.25": "0.25",
		"00": "0", "01": "1", "007.50": "7.5", "1.50": "1.5", "2.0": "2", "2.00": "2", "2.000": "2", "-0": "0", "-0.0": "0", "-00.00": "0", "0.250": "0.25", "9999.750": "9999.75",
		"-0000.000": "0", "0000.000": "0", "0009.500": "9.5", "-000.000": "0",
	} {
		wantValue(t, p, "width", value, impl.TextResult{Text: want})
		if got := impl.MayValue(p, "width", []byte(value)); got != (value == want) {
			t.Errorf("MayValue of the width %q: got %v", value, got)
		}
		wantValue(t, p, "width", want, impl.TextResult{Text: want})
	}
	for _, value := range []string{"inf", "-inf", "nan", "-1", "-0.25", "-9999.75", "-1.5", "-0.5"} {
		wantValue(t, p, "width", value, impl.TextResult{Code: widthIn(value).Code})
		if impl.KeptValue(p, "width", []byte(value)).Code != impl.ErrRange {
			t.Errorf("KeptValue of the width %q: want the code of WidthText", value)
		}
	}
	for _, value := range []string{"", "-", ".", "1.", ".5", "1.1", "10000", "00001", "1.2500", "1e1", "+1", "x", "1 ", " 1", "1\n", "\x00", "1\x00", "\x801", "1\xff", "1 2", "-nan", "Inf", "１", "1,5", "0x1", "1%", "1px"} {
		wantValue(t, p, "width", value, impl.TextResult{Code: impl.ErrText})
	}
}

func TestShortWidths(t *testing.T) {
	p := openPolicy()
	wordsUpTo("05.- \x80", 5, func(value string) {
		wantKeptValue(t, p, "width", value)
	})
	for _, value := range tagValues() {
		wantKeptValue(t, p, "width", value)
	}
}

// The codes of KeptValue in their order, several at once.
func TestOrderOfKeptCodes(t *testing.T) {
	open, bare, wide := openPolicy(), impl.Policy{}, policyOf("", "onload style title", "js")
	wrong := policyOf("", "width href", "")
	for _, c := range []struct {
		p     impl.Policy
		name  string
		value string
		code  int64
	}{
		{wrong, "href", "js:\x00", impl.ErrForm},
		{wrong, "width", "x", impl.ErrForm},
		{wrong, "onload", "\x00", impl.ErrForm},
		{policyOf("A", "href", ""), "src", "\x00", impl.ErrText},
		{policyOf("A", "href", ""), "href", "x", impl.ErrText},
		{impl.Policy{Tags: rising(11), Attrs: []string{"href"}}, "href", "x", impl.ErrMany},
		{bare, "href", "js:\x00", impl.ErrNone},
		{bare, "width", "x", impl.ErrNone},
		{bare, "", "", impl.ErrNone},
		{open, "", "", impl.ErrNone},
		{open, "onload", "x", impl.ErrNone},
		{open, "HREF", "x", impl.ErrNone},
		{open, "Width", "1", impl.ErrNone},
		{open, "href ", "x", impl.ErrNone},
		{wide, "onload", "x", impl.ErrNone},
		{wide, "style", "\x00", impl.ErrNone},
		{wide, "href", "x", impl.ErrNone},
		{wide, "href", "js:x", impl.ErrNone},
		{wide, "width", "1", impl.ErrNone},
		{wide, "alt", "x", impl.ErrNone},
		{open, "href", "js:\x00", impl.ErrText},
		{open, "href", "js:345678", impl.ErrText},
		{open, "src", "js: ", impl.ErrText},
		{open, "src", ":123456789", impl.ErrText},
		{open, "width", "js:x", impl.ErrText},
		{open, "width", "-1", impl.ErrRange},
		{open, "href", "js:x", impl.ErrState},
		{open, "title", "js:x", impl.OK},
		{wide, "title", "js:x", impl.OK},
	} {
		want := impl.TextResult{Code: c.code}
		if c.code == impl.OK {
			want.Text = c.value
		}
		wantValue(t, c.p, c.name, c.value, want)
	}
}

// A name that is safe and not in Attrs, in Attrs and not safe, neither, both.
func TestNamesOfAttributes(t *testing.T) {
	for _, name := range attrsThatAreSafe() {
		for _, other := range append(attrsThatAreSafe(), "a", "http", "onload", "") {
			want := impl.TextResult{Code: impl.ErrNone}
			if name == other {
				want = impl.TextResult{Text: "1"}
			}
			wantValue(t, policyOf("", other, ""), name, "1", want)
			wantValue(t, policyOf(name, other, name), name, "1", want)
		}
	}
	for _, name := range append(noNames(), "onload", "style", "alt", "hrefs", "hre", "srcset", "class", "id", "http", "a") {
		wantValue(t, openPolicy(), name, "1", impl.TextResult{Code: impl.ErrNone})
		code := int64(impl.ErrText)
		if impl.IsName(name) {
			code = impl.ErrNone
		}
		wantValue(t, impl.Policy{Attrs: []string{name}}, name, "1", impl.TextResult{Code: code})
	}
}
