package tests

import (
	"slices"
	"strings"
	"testing"

	"loop.example/g00606/impl"
)

// wordsToName are words that a policy may name: safe ones, others, and some that are no names.
func wordsToName() []string {
	words := []string{"data", "div", "form", "file", "ftp", "iframe", "js", "object", "onclick", "onload", "script", "style", "svg", "vbscript", "x"}
	words = slices.Concat(words, tagsThatAreSafe(), attrsThatAreSafe(), schemesThatAreSafe())
	return words
}

// somePolicy has words by chance; most of them have no fault.
func somePolicy(seed uint32) impl.Policy {
	var p impl.Policy
	words := wordsToName()
	for number := range 3 {
		var list []string
		for range seed >> 9 % 12 {
			seed = seed*1664525 + 1013904223
			list = append(list, words[int(seed>>16)%len(words)])
		}
		seed = seed*1664525 + 1013904223
		if seed>>20%8 != 0 {
			slices.Sort(list)
			list = slices.Compact(list)
		}
		p = withList(p, number, list)
	}
	return p
}

// widePolicies name every word that there is, ten at a time.
func widePolicies() []impl.Policy {
	words := slices.Sorted(slices.Values(wordsToName()))
	var all []impl.Policy
	for part := range slices.Chunk(words, 10) {
		all = append(all, impl.Policy{Tags: part, Attrs: part, Schemes: part}, impl.Policy{Tags: part, Attrs: attrsThatAreSafe(), Schemes: part})
	}
	return append(all, openPolicy(), impl.Policy{})
}

func policiesOfAllKinds() []impl.Policy {
	all := widePolicies()
	for seed := range uint32(150) {
		all = append(all, somePolicy(seed*2654435761))
	}
	return all
}

// valuesToKeep are values of every kind: links, paths, widths, and what is not clean.
func valuesToKeep() []string {
	values := append(tagValues(), "http:x", "https:x", "mailto:x", "HTTP:x", "js:x", "JS:x", "data:x", "file:x", "ftp:x", "x:y", ":", ":x", "/:", "/js:x", "?js:x", "#js:x", "js/:", "js:/", "1", "1.0", "01", "-0", "-1", "nan", "inf", "1234", "12345678", "123456789")
	for seed := range uint32(60) {
		values = append(values, mixed([]string{"http", "js", ":", "/", "?", "#", "1", ".", "a", " ", "\x80", "S", "&"}, int(seed%5), seed*77777))
	}
	return values
}

// wantSafeValue asks P9 of a value that was kept, without a word on how it is kept.
func wantSafeValue(t *testing.T, p impl.Policy, name string, value string, kept string) {
	t.Helper()
	if !slices.Contains(attrsThatAreSafe(), name) || !slices.Contains(p.Attrs, name) {
		t.Errorf("KeptValue of %q, %q by %s: got %q", name, value, briefPolicy(p), kept)
	}
	scheme, _, found := strings.Cut(kept, ":")
	if (name == "href" || name == "src") && found && !strings.ContainsAny(scheme, "/?#") {
		scheme = strings.ToLower(scheme)
		if !slices.Contains(schemesThatAreSafe(), scheme) || !slices.Contains(p.Schemes, scheme) {
			t.Errorf("KeptValue of %q, %q by %s: the scheme %q is let in", name, value, briefPolicy(p), scheme)
		}
	}
	if len(kept) > 8 || strings.ContainsFunc(kept, func(r rune) bool { return r < 33 || r > 126 }) {
		t.Errorf("KeptValue of %q, %q by %s: %q is not clean", name, value, briefPolicy(p), kept)
	}
	// What was kept is kept as it is.
	if again := impl.KeptValue(p, name, []byte(kept)); again.Code != impl.OK || string(again.Bytes) != kept || !impl.MayValue(p, name, []byte(kept)) {
		t.Errorf("KeptValue of %q, %q by %s: what was kept is not kept", name, kept, briefPolicy(p))
	}
}

// P9: whatever a policy names, only a safe tag may be.
func TestNoPolicyLetsInATag(t *testing.T) {
	tags := append(wordsToName(), oddTags()...)
	for _, p := range policiesOfAllKinds() {
		for _, tag := range tags {
			want := policyFaultOf(p) == impl.OK && slices.Contains(tagsThatAreSafe(), tag) && slices.Contains(p.Tags, tag)
			if impl.MayTag(p, tag) != want {
				t.Errorf("MayTag of %.40q by %s: got %v", tag, briefPolicy(p), !want)
			}
		}
	}
}

// P9: whatever a policy names, only a safe attribute is kept, and a link of safe schemes alone.
func TestNoPolicyLetsInAValue(t *testing.T) {
	names, values := wordsToName(), valuesToKeep()
	for _, p := range policiesOfAllKinds() {
		for _, name := range names {
			for _, value := range values {
				wantKeptValue(t, p, name, value)
				if kept := impl.KeptValue(p, name, []byte(value)); kept.Code == impl.OK {
					wantSafeValue(t, p, name, value, string(kept.Bytes))
				}
			}
		}
	}
}

// someAttrs are attributes by chance, of which about half may be kept.
func someAttrs(seed uint32) []impl.Attr {
	values := valuesToKeep()
	names := append(attrsThatAreSafe(), "href", "onload", "width", "")
	var attrs []impl.Attr
	for range seed >> 7 % 22 {
		seed = seed*1664525 + 1013904223
		name := names[int(seed>>16)%len(names)]
		seed = seed*1664525 + 1013904223
		attrs = append(attrs, attr(name, values[int(seed>>16)%len(values)]))
	}
	return attrs
}

// P9: what was kept of attributes is kept as it is, two of them at most, no two of one Name.
func TestKeptAttrsAreKept(t *testing.T) {
	for i, p := range policiesOfAllKinds() {
		for seed := range uint32(100) {
			wantKeptAttrs(t, p, someAttrs((seed+uint32(i)*100)*2654435761))
		}
	}
	kept := 0
	for seed := range uint32(1000) {
		attrs := someAttrs(seed * 2654435761)
		wantKeptAttrs(t, openPolicy(), attrs)
		kept += len(impl.KeptAttrs(openPolicy(), attrs).Attrs)
	}
	if kept < 500 {
		t.Errorf("of 1000 lists only %d attributes are kept: that says too little", kept)
	}
}

// Every short value of a link, of letters that may turn what it is.
func TestShortLinks(t *testing.T) {
	p := policyOf("", "href src title", "a http z")
	wordsUpTo("aA:/?# ", 5, func(value string) {
		for _, name := range []string{"href", "title"} {
			wantKeptValue(t, p, name, value)
		}
	})
	for _, scheme := range []string{"http", "HTTP", "Http", "https", "a", "z"} {
		wordsUpTo(":/?#x", 3, func(ahead string) {
			for _, behind := range []string{"", ":", "x"} {
				wantKeptValue(t, p, "src", ahead+scheme+":"+behind)
				wantKeptValue(t, p, "href", scheme+ahead+":"+behind)
			}
		})
	}
}
