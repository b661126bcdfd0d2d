package tests

import (
	"slices"
	"strings"
	"testing"

	"loop.example/g00606/impl"
)

// badLists are lists of words with a fault each, and its code.
func badLists() map[int64][][]string {
	return map[int64][][]string{
		impl.ErrMany: {rising(11), rising(12), rising(700), slices.Repeat([]string{""}, 11), slices.Repeat([]string{"a"}, 11)},
		impl.ErrText: {{""}, {"A"}, {"a", "B"}, {"a", ""}, {"b", "c", "d1"}, {"abcdefghi"}, {"", "a"}, {"a", "b:", "c"}},
		impl.ErrForm: {{"b", "a"}, {"a", "a"}, {"a", "c", "b"}, {"c", "a", "b"}, {"a", "b", "b"}, {"aa", "a"}, {"abcdefgh", "abcdefgg"}},
	}
}

// goodLists are lists of words without a fault.
func goodLists() [][]string {
	return [][]string{nil, {}, {"a"}, {"zzzzzzzz"}, {"a", "aa", "aaa", "ab", "b"}, {"href", "src", "title", "width"}, {"http", "js"}, rising(9), rising(10)}
}

func TestPoliciesWithoutFault(t *testing.T) {
	for _, tags := range goodLists() {
		for _, attrs := range goodLists() {
			for _, schemes := range goodLists() {
				wantPolicyFault(t, impl.Policy{Tags: tags, Attrs: attrs, Schemes: schemes}, impl.OK)
			}
		}
	}
}

// Each fault in each of the lists, alone, beside good ones.
func TestFaultsInOneList(t *testing.T) {
	for code, lists := range badLists() {
		for _, words := range lists {
			for number := range 3 {
				wantPolicyFault(t, withList(impl.Policy{}, number, words), code)
				wantPolicyFault(t, withList(openPolicy(), number, words), code)
			}
		}
	}
}

// Too many of any list are told ahead of all else; then the lists one behind the other.
func TestFaultsInSeveralLists(t *testing.T) {
	all := append(goodLists()[:3], badLists()[impl.ErrMany][:2]...)
	all = append(all, badLists()[impl.ErrText]...)
	all = append(all, badLists()[impl.ErrForm]...)
	for _, tags := range all {
		for _, attrs := range all {
			for _, schemes := range all {
				p := impl.Policy{Tags: tags, Attrs: attrs, Schemes: schemes}
				if got := impl.PolicyFault(p); got != policyFaultOf(p) {
					t.Errorf("PolicyFault of %s: got %d, want %d", briefPolicy(p), got, policyFaultOf(p))
				}
			}
		}
	}
}

func TestOrderOfPolicyFaults(t *testing.T) {
	many, noName, fallen := rising(11), []string{"A"}, []string{"b", "a"}
	for _, c := range []struct {
		p    impl.Policy
		code int64
	}{
		{impl.Policy{Tags: noName, Attrs: many}, impl.ErrMany},
		{impl.Policy{Tags: fallen, Schemes: many}, impl.ErrMany},
		{impl.Policy{Tags: noName, Attrs: noName, Schemes: many}, impl.ErrMany},
		{impl.Policy{Tags: many, Attrs: many, Schemes: many}, impl.ErrMany},
		{impl.Policy{Attrs: fallen, Schemes: many}, impl.ErrMany},
		{impl.Policy{Tags: fallen, Attrs: noName}, impl.ErrForm},
		{impl.Policy{Tags: noName, Attrs: fallen}, impl.ErrText},
		{impl.Policy{Tags: fallen, Schemes: noName}, impl.ErrForm},
		{impl.Policy{Tags: noName, Schemes: fallen}, impl.ErrText},
		{impl.Policy{Attrs: fallen, Schemes: noName}, impl.ErrForm},
		{impl.Policy{Attrs: noName, Schemes: fallen}, impl.ErrText},
		{policyOf("b a A", "", ""), impl.ErrForm},
		{policyOf("b A a", "", ""), impl.ErrText},
		{policyOf("", "b a A", ""), impl.ErrForm},
		{policyOf("", "b A a", ""), impl.ErrText},
		{policyOf("", "", "b a A"), impl.ErrForm},
		{policyOf("", "", "b A a"), impl.ErrText},
		{policyOf("A A", "", ""), impl.ErrText},
		{policyOf("z", "a", "z"), impl.OK},
		{policyOf("z", "z", "z"), impl.OK},
		{policyOf("a", "a", "a"), impl.OK},
	} {
		wantPolicyFault(t, c.p, c.code)
	}
}

// places are the first, a middle and the last place of ten.
func places() []int {
	return []int{0, 1, 4, 8, 9}
}

func TestNoNamesAtEachPlace(t *testing.T) {
	for _, name := range noNames() {
		for _, at := range places() {
			words := rising(10)
			words[at] = name
			for number := range 3 {
				p := withList(openPolicy(), number, words)
				if got := impl.PolicyFault(p); got != impl.ErrText {
					t.Errorf("PolicyFault of %s: got %d, want %d", briefPolicy(p), got, impl.ErrText)
				}
			}
		}
	}
}

func TestFallingWordsAtEachPlace(t *testing.T) {
	for _, at := range places()[1:] {
		for number := range 3 {
			twice := rising(10)
			twice[at] = twice[at-1]
			wantPolicyFault(t, withList(openPolicy(), number, twice), impl.ErrForm)
			fallen := rising(10)
			fallen[at] = "a"
			wantPolicyFault(t, withList(openPolicy(), number, fallen), impl.ErrForm)
			turned := rising(10)
			turned[at], turned[at-1] = turned[at-1], turned[at]
			wantPolicyFault(t, withList(openPolicy(), number, turned), impl.ErrForm)
			// The same word twice, but with others between.
			apart := rising(10)
			apart[at] = apart[0]
			wantPolicyFault(t, withList(openPolicy(), number, apart), impl.ErrForm)
		}
	}
	for number := range 3 {
		high := rising(10)
		high[0] = "z"
		wantPolicyFault(t, withList(openPolicy(), number, high), impl.ErrForm)
	}
}

// Every list of at most three of a few words, in each of the lists.
func TestPoliciesOfFewWords(t *testing.T) {
	words := []string{"", "a", "aa", "ab", "b", "B", "href"}
	var lists [][]string
	var grow func(ahead []string)
	grow = func(ahead []string) {
		lists = append(lists, slices.Clone(ahead))
		if len(ahead) == 3 {
			return
		}
		for _, word := range words {
			grow(append(slices.Clone(ahead), word))
		}
	}
	grow(nil)
	for _, list := range lists {
		for number := range 3 {
			p := withList(impl.Policy{}, number, list)
			wantPolicyFault(t, p, policyFaultOf(p))
		}
	}
}

// Words without end, and lists of them, end.
func TestHugePolicies(t *testing.T) {
	word := strings.Repeat("a", 1<<22)
	wantPolicyFault(t, impl.Policy{Tags: []string{word}}, impl.ErrText)
	wantPolicyFault(t, impl.Policy{Attrs: []string{"a", word}}, impl.ErrText)
	wantPolicyFault(t, impl.Policy{Schemes: slices.Repeat([]string{word}, 1<<20)}, impl.ErrMany)
	if impl.MayTag(openPolicy(), word) || impl.IsDropped(word) {
		t.Error("a tag without end may be")
	}
	wantValue(t, openPolicy(), word, "x", impl.TextResult{Code: impl.ErrNone})
	for _, name := range []string{"href", "src", "title", "width"} {
		wantValue(t, openPolicy(), name, word, impl.TextResult{Code: impl.ErrText})
		wantValue(t, openPolicy(), name, strings.Repeat("1", 1<<20), impl.TextResult{Code: impl.ErrText})
	}
	wantScheme(t, word+":", impl.TextResult{Code: impl.ErrLarge})
	wantKeptAttrs(t, openPolicy(), manyAttrs(100000))
	wantKeptList(t, openPolicy(), []impl.Attr{attr(word, "x"), attr("title", word), attr("src", "x")}, attr("src", "x"))
}
