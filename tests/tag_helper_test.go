package tests

import (
	"fmt"
	"regexp"
	"strings"
	"testing"

	"loop.example/g00606/impl"
)

// The forms of a tag as the document tells them, and of a name.
var (
	noteForm  = regexp.MustCompile(`(?s)\A<!--.*-->\z`)
	endForm   = regexp.MustCompile(`\A</([a-z]{1,8})>\z`)
	startForm = regexp.MustCompile(`\A<([a-z]{1,8})((?: +[a-z]{1,8}="[^"]*")*) *(/?)>\z`)
	attrForm  = regexp.MustCompile(` +([a-z]{1,8})="([^"]*)"`)
	nameForm  = regexp.MustCompile(`\A[a-z]{1,8}\z`)
)

func attr(name string, value string) impl.Attr {
	return impl.Attr{Name: name, Value: []byte(value)}
}

func start(name string, attrs ...impl.Attr) impl.Token {
	return impl.Token{Kind: impl.TokStart, Name: name, Attrs: attrs}
}

func shut(name string, attrs ...impl.Attr) impl.Token {
	return impl.Token{Kind: impl.TokStart, Name: name, Attrs: attrs, Shut: true}
}

func end(name string) impl.Token {
	return impl.Token{Kind: impl.TokEnd, Name: name}
}

func note() impl.Token {
	return impl.Token{Kind: impl.TokNote}
}

func byteToken(b int64) impl.Token {
	return impl.Token{Kind: impl.TokByte, Byte: b}
}

// shown tells all of a token, nil and an empty list alike.
func shown(token impl.Token) string {
	var text strings.Builder
	fmt.Fprintf(&text, "%d %d %q %v", token.Kind, token.Byte, token.Name, token.Shut)
	for _, a := range token.Attrs {
		fmt.Fprintf(&text, " %q=%q", a.Name, a.Value)
	}
	return text.String()
}

// brief is shown, but of a token that may be very large.
func brief(token impl.Token) string {
	return fmt.Sprintf("%.120s", shown(token))
}

// attrsIn are those of a text that startForm has: of one name the first alone.
func attrsIn(text string) []impl.Attr {
	var attrs []impl.Attr
	seen := map[string]bool{}
	for _, m := range attrForm.FindAllStringSubmatch(text, -1) {
		if !seen[m[1]] {
			attrs = append(attrs, attr(m[1], decoded(m[2])))
		}
		seen[m[1]] = true
	}
	return attrs
}

// tagIn is what the document asks of ReadTag.
func tagIn(text string) impl.TokenResult {
	if len(text) > impl.MaxHeld {
		return impl.TokenResult{Code: impl.ErrLarge}
	}
	if noteForm.MatchString(text) {
		return impl.TokenResult{Token: note()}
	}
	if m := endForm.FindStringSubmatch(text); m != nil {
		return impl.TokenResult{Token: end(m[1])}
	}
	if m := startForm.FindStringSubmatch(text); m != nil {
		return impl.TokenResult{Token: impl.Token{Kind: impl.TokStart, Name: m[1], Attrs: attrsIn(m[2]), Shut: m[3] == "/"}}
	}
	return impl.TokenResult{Code: impl.ErrText}
}

// tagText is what the document asks of WriteToken, where there is no fault, however large.
func tagText(token impl.Token) string {
	switch token.Kind {
	case impl.TokByte:
		return escaped(string([]byte{byte(token.Byte)}))
	case impl.TokEnd:
		return "</" + token.Name + ">"
	case impl.TokNote:
		return "<!---->"
	}
	text := "<" + token.Name
	for _, a := range token.Attrs {
		text += " " + a.Name + "=\"" + escaped(string(a.Value)) + "\""
	}
	if token.Shut {
		text += "/"
	}
	return text + ">"
}

// mayHave are the kinds, and whether they have a Byte, a Name, Attrs and Shut.
func mayHave() map[int64][4]bool {
	return map[int64][4]bool{
		impl.TokByte:  {true, false, false, false},
		impl.TokStart: {false, true, true, true},
		impl.TokEnd:   {false, true, false, false},
		impl.TokNote:  {},
	}
}

// faultOf is what the document asks of TokenFault, code by code.
func faultOf(token impl.Token) int64 {
	has := [4]bool{token.Byte != 0, token.Name != "", len(token.Attrs) > 0, token.Shut}
	may, known := mayHave()[token.Kind]
	if !known {
		return impl.ErrForm
	}
	for i := range has {
		if has[i] && !may[i] {
			return impl.ErrForm
		}
	}
	if token.Byte < 0 || token.Byte > 255 {
		return impl.ErrRange
	}
	named := token.Kind == impl.TokStart || token.Kind == impl.TokEnd
	if named && !nameForm.MatchString(token.Name) {
		return impl.ErrText
	}
	for i, a := range token.Attrs {
		if !nameForm.MatchString(a.Name) {
			return impl.ErrText
		}
		for _, ahead := range token.Attrs[:i] {
			if ahead.Name == a.Name {
				return impl.ErrForm
			}
		}
	}
	return impl.OK
}

// wantTag holds ReadTag of a text against a token that is told.
func wantTag(t *testing.T, text string, want impl.Token) {
	t.Helper()
	if got := impl.ReadTag(text); got.Code != impl.OK || shown(got.Token) != shown(want) {
		t.Errorf("ReadTag of %q: got code %d, %s, want %s", text, got.Code, shown(got.Token), shown(want))
	}
}

// wantNoTag holds ReadTag of a text against a code, with nothing beside it.
func wantNoTag(t *testing.T, text string, code int64) {
	t.Helper()
	if got := impl.ReadTag(text); got.Code != code || shown(got.Token) != shown(impl.Token{}) {
		t.Errorf("ReadTag of %.200q: got code %d, %s, want the code %d and nothing else", text, got.Code, shown(got.Token), code)
	}
}

// wantRead holds ReadTag of a text against the document's forms; what is read is right.
func wantRead(t *testing.T, text string) {
	t.Helper()
	want := tagIn(text)
	if want.Code != impl.OK {
		wantNoTag(t, text, want.Code)
		return
	}
	wantTag(t, text, want.Token)
	got := impl.ReadTag(text).Token
	if impl.TokenFault(got) != impl.OK {
		t.Errorf("ReadTag of %q: %s has the fault %d", text, shown(got), impl.TokenFault(got))
	}
	wantWritten(t, got)
}

// wantWritten holds WriteToken of a token, with a fault or without one, against the document; its text is read back.
func wantWritten(t *testing.T, token impl.Token) {
	t.Helper()
	want := impl.TextResult{Code: faultOf(token)}
	if want.Code == impl.OK {
		want.Text = tagText(token)
	}
	if len(want.Text) > impl.MaxHeld {
		want = impl.TextResult{Code: impl.ErrLarge}
	}
	if got := impl.WriteToken(token); got != want {
		t.Errorf("WriteToken of %s: got %+v, want %+v", brief(token), got, want)
	}
	if want.Code == impl.OK && token.Kind != impl.TokByte {
		wantTag(t, want.Text, token)
	}
}

func wantFault(t *testing.T, token impl.Token, code int64) {
	t.Helper()
	if got := impl.TokenFault(token); got != code {
		t.Errorf("TokenFault of %s: got %d, want %d", brief(token), got, code)
	}
	if faultOf(token) != code {
		t.Errorf("%s: the test's own fault is %d, not %d", brief(token), faultOf(token), code)
	}
	if got := impl.WriteToken(token); code != impl.OK && got != (impl.TextResult{Code: code}) {
		t.Errorf("WriteToken of %s: got %+v, want the code %d and nothing else", brief(token), got, code)
	}
	if code != impl.OK {
		wantAttr(t, token, "a", impl.BytesResult{Code: code})
	}
}

func wantAttr(t *testing.T, token impl.Token, name string, want impl.BytesResult) {
	t.Helper()
	if got := impl.AttrOf(token, name); got.Code != want.Code || string(got.Bytes) != string(want.Bytes) {
		t.Errorf("AttrOf of %s, %q: got %d, %.80q, want %d, %.80q", brief(token), name, got.Code, got.Bytes, want.Code, want.Bytes)
	}
}

// goodTokens are tokens without a fault, all of which but the bytes are read back.
func goodTokens() []impl.Token {
	tokens := []impl.Token{note(), byteToken(0), byteToken('<'), byteToken('"'), byteToken('a'), byteToken(128), byteToken(255)}
	for _, name := range []string{"a", "z", "b", "img", "abcdefgh", "zzzzzzzz"} {
		tokens = append(tokens, start(name), shut(name), end(name), start(name, attr(name, "")), shut(name, attr("a", name)))
	}
	for _, value := range tagValues() {
		tokens = append(tokens,
			start("a", attr("href", value)),
			shut("img", attr("src", value), attr("alt", value)),
			start("p", attr("c", "1"), attr("b", value), attr("a", "3")))
	}
	return tokens
}

// tagValues are values of attributes: with what ends a value or a tag, and with what looks like a reference.
func tagValues() []string {
	return []string{
		"", "x", " ", "  ", "x y", "<", ">", "/", "&", "\"", "'", "=", "<b>", "/>", "-->", "<!-- -->", "a=\"b\"", "\" c=\"",
		"&lt;", "&amp;", "&#65;", "&bad;", "&quot;", "&", "&&", "&;", ";", "\x00", "\n", "\t", "\x7f", "\x80", "\xff", "é", "日",
	}
}
