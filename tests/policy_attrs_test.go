package tests

import (
	"slices"
	"testing"

	"loop.example/g00606/impl"
)

// attrsFrom are attributes told as pairs: a name, a value.
func attrsFrom(words ...string) []impl.Attr {
	var attrs []impl.Attr
	for pair := range slices.Chunk(words, 2) {
		attrs = append(attrs, attr(pair[0], pair[1]))
	}
	return attrs
}

func TestKeptAttrsInOrder(t *testing.T) {
	p := openPolicy()
	wantKeptList(t, p, nil)
	wantKeptList(t, p, attrsFrom("onload", "x"))
	wantKeptList(t, p, attrsFrom("href", "x"), attr("href", "x"))
	wantKeptList(t, p, attrsFrom("title", ""), attr("title", ""))
	wantKeptList(t, p, attrsFrom("href", "x", "src", "y"), attr("href", "x"), attr("src", "y"))
	wantKeptList(t, p, attrsFrom("src", "y", "href", "x"), attr("src", "y"), attr("href", "x"))
	wantKeptList(t, p, attrsFrom("width", "2.0", "title", "t"), attr("width", "2"), attr("title", "t"))
	// Those that are not kept ahead of, between and behind the others.
	wantKeptList(t, p, attrsFrom("onload", "x", "href", "y", "style", "z", "width", "1.50", "alt", "u"), attr("href", "y"), attr("width", "1.5"))
	wantKeptList(t, p, attrsFrom("href", "js:x", "src", "\x00", "width", "-1", "title", "t"), attr("title", "t"))
	wantKeptList(t, p, attrsFrom("title", "too long to be", "src", "s", "href", ":", "width", "inf", "", "", "A", "x", "title", "t"), attr("src", "s"), attr("title", "t"))
	// A name that is none is no fault here: it is not kept.
	wantKeptList(t, p, attrsFrom("HREF", "x", "href ", "x", "\x00", "x"))
}

func TestKeptAttrsOfOneName(t *testing.T) {
	p := openPolicy()
	// The first one is kept.
	wantKeptList(t, p, attrsFrom("href", "x", "href", "y"), attr("href", "x"))
	wantKeptList(t, p, attrsFrom("href", "x", "href", "x"), attr("href", "x"))
	wantKeptList(t, p, attrsFrom("href", "x", "href", "y", "src", "z"), attr("href", "x"), attr("src", "z"))
	wantKeptList(t, p, attrsFrom("width", "1.0", "width", "1"), attr("width", "1"))
	wantKeptList(t, p, attrsFrom("title", "", "title", "t", "title", "u", "href", "x"), attr("title", ""), attr("href", "x"))
	wantKeptList(t, p, attrsFrom("href", "x", "onload", "", "href", "js:", "href", "y"), attr("href", "x"))
	// The first one is not kept: it is no attribute whose KeptValue has no code.
	wantKeptList(t, p, attrsFrom("href", "js:x", "href", "y"), attr("href", "y"))
	wantKeptList(t, p, attrsFrom("width", "x", "width", "-1", "width", "01", "width", "2"), attr("width", "1"))
	wantKeptList(t, p, attrsFrom("src", "\x00", "title", "t", "src", "s", "src", "u"), attr("title", "t"), attr("src", "s"))
	wantKeptList(t, p, attrsFrom("onload", "x", "onload", "y"))
}

func TestTwoAttrsAtMost(t *testing.T) {
	p := openPolicy()
	wantKeptList(t, p, attrsFrom("href", "1", "src", "2", "title", "3"), attr("href", "1"), attr("src", "2"))
	wantKeptList(t, p, attrsFrom("width", "1", "title", "2", "src", "3", "href", "4"), attr("width", "1"), attr("title", "2"))
	wantKeptList(t, p, attrsFrom("onload", "1", "width", "1", "style", "", "title", "2", "src", "3", "href", "4"), attr("width", "1"), attr("title", "2"))
	wantKeptList(t, p, attrsFrom("href", "1", "href", "2", "src", "2", "src", "3", "title", "3"), attr("href", "1"), attr("src", "2"))
	wantKeptList(t, p, attrsFrom("href", ":", "src", "2", "title", "3", "href", "4"), attr("src", "2"), attr("title", "3"))
}

// What is kept hangs on the policy, attribute by attribute.
func TestKeptAttrsByPolicies(t *testing.T) {
	attrs := attrsFrom("href", "http:x", "src", "/a:b", "title", "t", "width", "03")
	wantKeptList(t, impl.Policy{}, attrs)
	wantKeptList(t, policyOf("a href", "", "href"), attrs)
	wantKeptList(t, policyOf("", "href", ""), attrs)
	wantKeptList(t, policyOf("", "href", "http"), attrs, attr("href", "http:x"))
	wantKeptList(t, policyOf("", "href", "https"), attrs)
	wantKeptList(t, policyOf("", "href src", ""), attrs, attr("src", "/a:b"))
	wantKeptList(t, policyOf("", "onload width", ""), attrs, attr("width", "3"))
	wantKeptList(t, policyOf("", "href title width", ""), attrs, attr("title", "t"), attr("width", "3"))
}

func TestManyAttrs(t *testing.T) {
	p := openPolicy()
	last := []impl.Attr{attr("href", "x")}
	for _, size := range []int{0, 1, 18, 19} {
		wantKeptList(t, p, slices.Concat(manyAttrs(size), last), last...)
		wantKeptList(t, p, slices.Concat(last, manyAttrs(size)), last...)
	}
	wantKeptList(t, p, slices.Repeat(last, 20), last...)
	wantKeptList(t, p, manyAttrs(20))
	for _, attrs := range [][]impl.Attr{slices.Concat(manyAttrs(20), last), slices.Repeat(last, 21), manyAttrs(21), manyAttrs(22), slices.Repeat(attrsFrom("", ""), 500)} {
		wantKeptAttrs(t, p, attrs)
		if got := impl.KeptAttrs(p, attrs); got.Code != impl.ErrMany || len(got.Attrs) > 0 {
			t.Errorf("KeptAttrs of %d: got %d, %s, want the code %d", len(attrs), got.Code, shownAttrs(got.Attrs), impl.ErrMany)
		}
		// The fault of a policy is told ahead of it.
		if got := impl.KeptAttrs(policyOf("a a", "", ""), attrs); got.Code != impl.ErrForm || len(got.Attrs) > 0 {
			t.Errorf("KeptAttrs of %d beside a fault: got %d, want %d", len(attrs), got.Code, impl.ErrForm)
		}
	}
}

// Every list of at most four of a few attributes, by some policies.
func TestShortListsOfAttrs(t *testing.T) {
	few := attrsFrom("href", "x", "href", "js:x", "src", "http:y", "width", "1.0", "width", "nan", "title", "a b", "title", "t", "onload", "x")
	policies := []impl.Policy{openPolicy(), policyOf("", "href onload title", "js"), policyOf("", "src width", "http"), {}, policyOf("", "b a", "")}
	wordsUpTo("\x00\x01\x02\x03\x04\x05\x06\x07", 4, func(word string) {
		var attrs []impl.Attr
		for _, at := range []byte(word) {
			attrs = append(attrs, few[at])
		}
		for _, p := range policies {
			wantKeptAttrs(t, p, attrs)
		}
	})
}
