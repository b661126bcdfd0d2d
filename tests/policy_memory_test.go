package tests

import (
	"fmt"
	"slices"
	"strings"
	"testing"

	"loop.example/g00606/impl"
)

// roomyWords has more room than it needs, and each word memory of its own.
func roomyWords(words []string) []string {
	all := make([]string, 0, len(words)+4)
	for _, word := range words {
		all = append(all, strings.Clone(word))
	}
	return all
}

func roomyPolicy(p impl.Policy) impl.Policy {
	return impl.Policy{Tags: roomyWords(p.Tags), Attrs: roomyWords(p.Attrs), Schemes: roomyWords(p.Schemes)}
}

// wholePolicy shows a policy with all the room of its lists.
func wholePolicy(p impl.Policy) string {
	return fmt.Sprintf("%q %q %q", p.Tags[:cap(p.Tags)], p.Attrs[:cap(p.Attrs)], p.Schemes[:cap(p.Schemes)])
}

func scribbleWords(words []string) {
	words = words[:cap(words)]
	for i := range words {
		words[i] += "x"
	}
}

func scribblePolicy(p impl.Policy) {
	scribbleWords(p.Tags)
	scribbleWords(p.Attrs)
	scribbleWords(p.Schemes)
}

// policyCall is one set of arguments for all functions that ask a policy.
type policyCall struct {
	p     impl.Policy
	name  string
	attrs []impl.Attr
}

func (c policyCall) roomy() policyCall {
	name := strings.Clone(c.name)
	attrs := roomyToken(impl.Token{Attrs: c.attrs}).Attrs
	for i, a := range attrs {
		attrs[i].Name = strings.Clone(a.Name)
	}
	return policyCall{p: roomyPolicy(c.p), name: name, attrs: attrs}
}

func (c policyCall) whole() string {
	return fmt.Sprint(wholePolicy(c.p), c.name, wholeToken(impl.Token{Attrs: c.attrs}))
}

func (c policyCall) scribble() {
	scribblePolicy(c.p)
	scribbleToken(impl.Token{Attrs: c.attrs})
}

// policyAnswers are all that is answered to one set of arguments.
type policyAnswers struct {
	numbers []int64
	bools   []bool
	words   [][]string
	texts   []string
	bytes   [][]byte
	attrs   [][]impl.Attr
}

func (c policyCall) answers() policyAnswers {
	var all policyAnswers
	kept := impl.KeptAttrs(c.p, c.attrs)
	safe := impl.SafeTags()
	all.numbers = append(all.numbers, impl.PolicyFault(c.p), kept.Code, safe.Code)
	all.bools = append(all.bools, impl.MayTag(c.p, c.name), impl.IsDropped(c.name))
	all.words = append(all.words, safe.Words)
	all.attrs = append(all.attrs, kept.Attrs)
	for _, a := range c.attrs {
		scheme, value := impl.SchemeOf(a.Value), impl.KeptValue(c.p, a.Name, a.Value)
		all.numbers = append(all.numbers, scheme.Code, value.Code)
		all.texts = append(all.texts, scheme.Text)
		all.bytes = append(all.bytes, value.Bytes)
		all.bools = append(all.bools, impl.MayValue(c.p, a.Name, a.Value), impl.MayTag(c.p, a.Name))
	}
	return all
}

func (a policyAnswers) shown() string {
	var attrs []string
	for _, list := range a.attrs {
		attrs = append(attrs, shownAttrs(list))
	}
	return fmt.Sprintf("%v %v %q %q %q %q", a.numbers, a.bools, a.words, a.texts, a.bytes, attrs)
}

func (a policyAnswers) scribble() {
	for _, words := range a.words {
		scribbleWords(words)
	}
	for _, data := range a.bytes {
		scribbleBytes(data)
	}
	for _, attrs := range a.attrs {
		scribbleToken(impl.Token{Attrs: attrs})
	}
}

// lists are where all lists of the answers lie.
func (a policyAnswers) lists() []span {
	var spans []span
	for _, words := range a.words {
		spans = append(spans, spanOf(words))
	}
	for _, data := range a.bytes {
		spans = append(spans, spanOf(data))
	}
	for _, attrs := range a.attrs {
		spans = append(spans, spansOfAttrs(attrs)...)
	}
	return haveRoom(spans)
}

// names are where all words of the answers lie.
func (a policyAnswers) names() []span {
	var spans []span
	for _, text := range a.texts {
		spans = append(spans, wordSpan(text))
	}
	for _, attrs := range a.attrs {
		for _, one := range attrs {
			spans = append(spans, wordSpan(one.Name))
		}
	}
	return haveRoom(spans)
}

func spansOfAttrs(attrs []impl.Attr) []span {
	spans := []span{spanOf(attrs)}
	for _, a := range attrs {
		spans = append(spans, spanOf(a.Value))
	}
	return spans
}

// spans are where all lists and words of the arguments lie.
func (c policyCall) spans() []span {
	spans := append(spansOfAttrs(c.attrs), wordSpan(c.name))
	for _, words := range [][]string{c.p.Tags, c.p.Attrs, c.p.Schemes} {
		spans = append(spans, spanOf(words))
		for _, word := range words {
			spans = append(spans, wordSpan(word))
		}
	}
	for _, a := range c.attrs {
		spans = append(spans, wordSpan(a.Name))
	}
	return haveRoom(spans)
}

// memoryCalls are sets of arguments of every kind, with faults and without them.
func memoryCalls() []policyCall {
	policies := append(policiesOfAllKinds()[:40], openPolicy(), policyOf("b a", "href", ""), policyOf("", "A", ""), impl.Policy{Tags: rising(11)})
	names := append(wordsToName(), "", "A")
	var calls []policyCall
	for i, p := range policies {
		for j, attrs := range [][]impl.Attr{
			nil,
			attrsFrom("href", "http:x", "width", "1.50", "title", "t"),
			attrsFrom("title", "", "title", "t", "src", "HTTP:/x"),
			attrsFrom("width", "2", "href", "js:x", "onload", "x"),
			someAttrs(uint32(i) * 40503), manyAttrs(21),
		} {
			calls = append(calls, policyCall{p: p, name: names[(i+j)%len(names)], attrs: attrs})
		}
	}
	return calls
}

// P1: no call changes a policy, its words, or the values of attributes, nor the room behind them.
func TestPoliciesChangeNoArgument(t *testing.T) {
	for _, call := range memoryCalls() {
		given := call.roomy()
		before := given.whole()
		given.answers()
		if given.whole() != before {
			t.Errorf("%s with %s was changed", briefPolicy(call.p), shownAttrs(call.attrs))
		}
	}
}

// P1: what is written to an argument is not seen in an answer, nor the other way round, nor in what is answered then.
func TestPoliciesShareNoMemory(t *testing.T) {
	for _, call := range memoryCalls() {
		given := call.roomy()
		before := given.whole()
		answers := given.answers()
		want := answers.shown()
		answers.scribble()
		if given.whole() != before {
			t.Errorf("%s with %s: what is written to an answer is seen in an argument", briefPolicy(call.p), shownAttrs(call.attrs))
		}
		again := given.answers()
		if again.shown() != want {
			t.Errorf("%s with %s: what is written to an answer is seen in what is answered then", briefPolicy(call.p), shownAttrs(call.attrs))
		}
		given.scribble()
		if again.shown() != want {
			t.Errorf("%s with %s: what is written to an argument is seen in an answer", briefPolicy(call.p), shownAttrs(call.attrs))
		}
	}
}

// P1: no list and no word of an answer lies in the memory of an argument, nor a list in that of another one.
func TestListsOfPoliciesLieApart(t *testing.T) {
	for _, call := range memoryCalls() {
		given := call.roomy()
		answers := given.answers()
		lists := answers.lists()
		for i, a := range lists {
			if slices.ContainsFunc(lists[:i], func(b span) bool { return overlap(a, b) }) {
				t.Errorf("%s with %s: two lists share memory", briefPolicy(call.p), shownAttrs(call.attrs))
			}
		}
		for _, a := range append(lists, answers.names()...) {
			if slices.ContainsFunc(given.spans(), func(b span) bool { return overlap(a, b) }) {
				t.Errorf("%s with %s: an answer shares memory with an argument", briefPolicy(call.p), shownAttrs(call.attrs))
			}
		}
	}
}

// P1: what is appended to a value that was kept is not seen in another one.
func TestKeptValuesHaveRoomOfTheirOwn(t *testing.T) {
	attrs := attrsFrom("width", "01.50", "title", "t", "src", "/a:b")
	for i := range 2 {
		kept := impl.KeptAttrs(openPolicy(), attrs).Attrs
		want := string(kept[1-i].Value)
		kept[i].Value = append(kept[i].Value, "0123456789"...)
		scribbleBytes(kept[i].Value)
		if string(kept[1-i].Value) != want {
			t.Errorf("KeptAttrs: what is written to value %d is seen in the other one", i)
		}
	}
}

// P1: the same arguments have the same answer, however often they are asked, and whatever was asked ahead of it.
func TestPoliciesKeepNothing(t *testing.T) {
	calls := memoryCalls()
	var first []string
	for _, call := range calls {
		first = append(first, call.answers().shown())
	}
	for round := range 4 {
		for i := range calls {
			at := (i*7 + round*31) % len(calls)
			if calls[at].answers().shown() != first[at] {
				t.Errorf("%s with %s: another answer than at first", briefPolicy(calls[at].p), shownAttrs(calls[at].attrs))
			}
		}
	}
}

// P1: nil and an empty list are the same value, wherever one stands.
func TestNoWordsAreNothing(t *testing.T) {
	lists := [][]string{nil, {}, make([]string, 0, 5)}
	for _, tags := range lists {
		for _, attrs := range lists {
			for _, schemes := range lists {
				wantPolicyFault(t, impl.Policy{Tags: tags, Attrs: attrs, Schemes: schemes}, impl.OK)
			}
		}
	}
	for _, value := range [][]byte{nil, {}, make([]byte, 0, 5)} {
		if got := impl.SchemeOf(value); got != (impl.TextResult{Code: impl.ErrNone}) {
			t.Errorf("SchemeOf of nothing: got %+v", got)
		}
		for _, name := range []string{"href", "src", "title"} {
			if got := impl.KeptValue(openPolicy(), name, value); got.Code != impl.OK || len(got.Bytes) > 0 || !impl.MayValue(openPolicy(), name, value) {
				t.Errorf("KeptValue of %q and nothing: got %d, %q", name, got.Code, got.Bytes)
			}
		}
		if got := impl.KeptValue(openPolicy(), "width", value); got.Code != impl.ErrText || len(got.Bytes) > 0 {
			t.Errorf("KeptValue of a width of nothing: got %d, %q", got.Code, got.Bytes)
		}
		wantKeptList(t, openPolicy(), []impl.Attr{{Name: "title", Value: value}}, attr("title", ""))
	}
	for _, attrs := range [][]impl.Attr{nil, {}, make([]impl.Attr, 0, 5)} {
		wantKeptList(t, openPolicy(), attrs)
	}
}
