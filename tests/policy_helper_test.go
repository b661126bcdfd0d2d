package tests

import (
	"fmt"
	"regexp"
	"slices"
	"strings"
	"testing"

	"loop.example/g00606/impl"
)

// The forms of values as the document tells them.
var (
	cleanForm  = regexp.MustCompile(`\A[!-~]{0,8}\z`)
	schemeForm = regexp.MustCompile(`\A([a-zA-Z]+):`)
	askForm    = regexp.MustCompile(`\A[^:/?#]*:`)
)

func tagsThatAreSafe() []string {
	return []string{"a", "b", "br", "i", "img", "p"}
}

func attrsThatAreSafe() []string {
	return []string{"href", "src", "title", "width"}
}

func schemesThatAreSafe() []string {
	return []string{"http", "https", "mailto"}
}

// policyOf has words with blanks between, as they stand.
func policyOf(tags string, attrs string, schemes string) impl.Policy {
	return impl.Policy{Tags: strings.Fields(tags), Attrs: strings.Fields(attrs), Schemes: strings.Fields(schemes)}
}

// openPolicy lets in all that may be let in.
func openPolicy() impl.Policy {
	return policyOf("a b br i img p", "href src title width", "http https mailto")
}

// rising are n names that rise.
func rising(n int) []string {
	var words []string
	for i := range n {
		words = append(words, "w"+string([]byte{byte('a' + i/26%26), byte('a' + i%26)}))
	}
	return words
}

// withList is p with words as its list of that number: Tags, Attrs, Schemes.
func withList(p impl.Policy, number int, words []string) impl.Policy {
	switch number {
	case 0:
		p.Tags = words
	case 1:
		p.Attrs = words
	default:
		p.Schemes = words
	}
	return p
}

func briefPolicy(p impl.Policy) string {
	return fmt.Sprintf("%.200s", fmt.Sprintf("%q %q %q", p.Tags, p.Attrs, p.Schemes))
}

func shownAttrs(attrs []impl.Attr) string {
	var text strings.Builder
	for _, a := range attrs {
		fmt.Fprintf(&text, "%q=%q ", a.Name, a.Value)
	}
	return text.String()
}

// policyFaultOf is what the document asks of PolicyFault, code by code.
func policyFaultOf(p impl.Policy) int64 {
	lists := [][]string{p.Tags, p.Attrs, p.Schemes}
	for _, words := range lists {
		if len(words) > 10 {
			return impl.ErrMany
		}
	}
	for _, words := range lists {
		for i, word := range words {
			if !nameForm.MatchString(word) {
				return impl.ErrText
			}
			if i > 0 && strings.Compare(words[i-1], word) >= 0 {
				return impl.ErrForm
			}
		}
	}
	return impl.OK
}

// schemeIn is what the document asks of SchemeOf.
func schemeIn(value string) impl.TextResult {
	if len(value) > 240 {
		return impl.TextResult{Code: impl.ErrLarge}
	}
	found := schemeForm.FindStringSubmatch(value)
	if found == nil {
		return impl.TextResult{Code: impl.ErrNone}
	}
	scheme := []byte(found[1])
	for i := range scheme {
		scheme[i] |= 32
	}
	return impl.TextResult{Text: string(scheme)}
}

func maySchemeOf(p impl.Policy, value string) bool {
	scheme := schemeIn(value)
	return scheme.Code == impl.OK && slices.Contains(schemesThatAreSafe(), scheme.Text) && slices.Contains(p.Schemes, scheme.Text)
}

// keptOf is what the document asks of KeptValue, code by code; the Text is that of its bytes.
func keptOf(p impl.Policy, name string, value string) impl.TextResult {
	if code := policyFaultOf(p); code != impl.OK {
		return impl.TextResult{Code: code}
	}
	if !slices.Contains(attrsThatAreSafe(), name) || !slices.Contains(p.Attrs, name) {
		return impl.TextResult{Code: impl.ErrNone}
	}
	if name == "width" {
		return widthIn(value)
	}
	if !cleanForm.MatchString(value) {
		return impl.TextResult{Code: impl.ErrText}
	}
	if name != "title" && askForm.MatchString(value) && !maySchemeOf(p, value) {
		return impl.TextResult{Code: impl.ErrState}
	}
	return impl.TextResult{Text: value}
}

// keptAttrsOf is what the document asks of KeptAttrs.
func keptAttrsOf(p impl.Policy, attrs []impl.Attr) impl.AttrsResult {
	if code := policyFaultOf(p); code != impl.OK {
		return impl.AttrsResult{Code: code}
	}
	if len(attrs) > 20 {
		return impl.AttrsResult{Code: impl.ErrMany}
	}
	var all []impl.Attr
	for _, a := range attrs {
		kept := keptOf(p, a.Name, string(a.Value))
		named := func(other impl.Attr) bool { return other.Name == a.Name }
		if kept.Code == impl.OK && !slices.ContainsFunc(all, named) {
			all = append(all, attr(a.Name, kept.Text))
		}
	}
	return impl.AttrsResult{Attrs: all[:min(len(all), 2)]}
}

// wantValue holds KeptValue and MayValue against what is told, and that against the document's words.
func wantValue(t *testing.T, p impl.Policy, name string, value string, want impl.TextResult) {
	t.Helper()
	if keptOf(p, name, value) != want {
		t.Errorf("%q of %.40q by %s: the test's own answer is %+v, not %+v", name, value, briefPolicy(p), keptOf(p, name, value), want)
	}
	wantKeptValue(t, p, name, value)
}

// wantKeptValue holds KeptValue and MayValue against the document's words.
func wantKeptValue(t *testing.T, p impl.Policy, name string, value string) {
	t.Helper()
	want := keptOf(p, name, value)
	if got := impl.KeptValue(p, name, []byte(value)); got.Code != want.Code || string(got.Bytes) != want.Text {
		t.Errorf("KeptValue of %q, %.40q by %s: got %d, %.40q, want %d, %.40q", name, value, briefPolicy(p), got.Code, got.Bytes, want.Code, want.Text)
	}
	may := want.Code == impl.OK && want.Text == value
	if got := impl.MayValue(p, name, []byte(value)); got != may {
		t.Errorf("MayValue of %q, %.40q by %s: got %v, want %v", name, value, briefPolicy(p), got, may)
	}
}

// wantKeptAttrs holds KeptAttrs against the document's words; what was kept is kept as it is.
func wantKeptAttrs(t *testing.T, p impl.Policy, attrs []impl.Attr) {
	t.Helper()
	got, want := impl.KeptAttrs(p, attrs), keptAttrsOf(p, attrs)
	if got.Code != want.Code || shownAttrs(got.Attrs) != shownAttrs(want.Attrs) {
		t.Errorf("KeptAttrs of %.200s by %s: got %d, %s, want %d, %s", shownAttrs(attrs), briefPolicy(p), got.Code, shownAttrs(got.Attrs), want.Code, shownAttrs(want.Attrs))
	}
	if got.Code == impl.OK {
		wantSafeAttrs(t, p, got.Attrs)
	}
}

// wantSafeAttrs asks P9 of what was kept, by the names and values alone.
func wantSafeAttrs(t *testing.T, p impl.Policy, kept []impl.Attr) {
	t.Helper()
	if len(kept) > 2 || len(kept) == 2 && kept[0].Name == kept[1].Name {
		t.Errorf("KeptAttrs by %s: %s are too many, or of one Name", briefPolicy(p), shownAttrs(kept))
	}
	for _, a := range kept {
		if !slices.Contains(attrsThatAreSafe(), a.Name) || !impl.MayValue(p, a.Name, a.Value) {
			t.Errorf("KeptAttrs by %s: %s is kept", briefPolicy(p), shownAttrs([]impl.Attr{a}))
		}
	}
	again := impl.KeptAttrs(p, kept)
	if again.Code != impl.OK || shownAttrs(again.Attrs) != shownAttrs(kept) {
		t.Errorf("KeptAttrs by %s: of %s only %s is kept", briefPolicy(p), shownAttrs(kept), shownAttrs(again.Attrs))
	}
}

// wantKeptList holds KeptAttrs against attributes that are told.
func wantKeptList(t *testing.T, p impl.Policy, attrs []impl.Attr, want ...impl.Attr) {
	t.Helper()
	wantKeptAttrs(t, p, attrs)
	if got := impl.KeptAttrs(p, attrs); got.Code != impl.OK || shownAttrs(got.Attrs) != shownAttrs(want) {
		t.Errorf("KeptAttrs of %s: got %d, %s, want %s", shownAttrs(attrs), got.Code, shownAttrs(got.Attrs), shownAttrs(want))
	}
}

// wantPolicyFault holds PolicyFault, and all that ask it, against a code.
func wantPolicyFault(t *testing.T, p impl.Policy, code int64) {
	t.Helper()
	if got := impl.PolicyFault(p); got != code {
		t.Errorf("PolicyFault of %s: got %d, want %d", briefPolicy(p), got, code)
	}
	if policyFaultOf(p) != code {
		t.Errorf("%s: the test's own fault is %d, not %d", briefPolicy(p), policyFaultOf(p), code)
	}
	for _, tag := range tagsThatAreSafe() {
		if want := code == impl.OK && slices.Contains(p.Tags, tag); impl.MayTag(p, tag) != want {
			t.Errorf("MayTag of %q by %s: got %v", tag, briefPolicy(p), !want)
		}
	}
	for _, name := range attrsThatAreSafe() {
		for _, value := range []string{"1", "2.0", "http:x", "\x00", "long enough"} {
			wantKeptValue(t, p, name, value)
		}
	}
	wantKeptAttrs(t, p, []impl.Attr{attr("href", "x"), attr("src", "x"), attr("width", "1")})
	wantKeptAttrs(t, p, manyAttrs(21))
}

func wantScheme(t *testing.T, value string, want impl.TextResult) {
	t.Helper()
	if got := impl.SchemeOf([]byte(value)); got != want {
		t.Errorf("SchemeOf of %.40q: got %+v, want %+v", value, got, want)
	}
	if schemeIn(value) != want {
		t.Errorf("%.40q: the test's own scheme is %+v, not %+v", value, schemeIn(value), want)
	}
}
