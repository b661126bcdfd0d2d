package tests

import (
	"fmt"
	"slices"
	"strings"
	"testing"
	"unsafe"

	"loop.example/g00606/impl"
)

// roomyBuild is a deep copy whose lists have more room than they need, so that a
// program that appends to them in place is found out.
func roomyBuild(x impl.BuildState) impl.BuildState {
	return impl.BuildState{Nodes: roomyNodes(x.Nodes), Open: append(make([]int64, 0, len(x.Open)+4), x.Open...), Large: x.Large}
}

func roomyTokens(tokens []impl.Token) []impl.Token {
	all := make([]impl.Token, 0, len(tokens)+4)
	for _, token := range tokens {
		all = append(all, roomyToken(token))
	}
	return all
}

// wholeBuild shows a state with all the room of its lists.
func wholeBuild(x impl.BuildState) string {
	return fmt.Sprint(wholeNodes(x.Nodes), x.Open[:cap(x.Open)], x.Large)
}

// wholeTokens shows tokens with all the room of their lists.
func wholeTokens(tokens []impl.Token) string {
	var text strings.Builder
	for _, token := range tokens[:cap(tokens)] {
		text.WriteString(wholeToken(token) + "\n")
	}
	return text.String()
}

func scribbleBuild(x impl.BuildState) {
	scribbleNodes(x.Nodes[:cap(x.Nodes)])
	open := x.Open[:cap(x.Open)]
	for i := range open {
		open[i] += 7
	}
}

func scribbleTokens(tokens []impl.Token) {
	for i := range tokens {
		scribbleToken(tokens[i])
		tokens[i] = impl.Token{Kind: tokens[i].Kind + 7, Name: tokens[i].Name + "x"}
	}
}

// memoryBuilds are states with and without a fault, with attributes, texts and open ones.
func memoryBuilds() []impl.BuildState {
	rich := nodesOf(element(-1, "p", attr("title", "long enough"), attr("a", "")), textNode(0, "some text"), element(0, "b", attr("href", "value")), textNode(2, "more"))
	states := []impl.BuildState{{}, largeState(), stateOf(rich, 0, 2), stateOf(rich, 0), stateOf(rich), stateOf(rich, 2), withLarge(stateOf(rich, 0)), stateOf(nil, 3), fullTree("p", "b"), openTags("b", "b", "b", "b", "b", "b", "b"), stateOf(nodesOf(textNode(-1, strings.Repeat("x", 240))))}
	for seed := range uint32(12) {
		nodes := mixedTree(int(2+seed*2), 4+seed%12, seed)
		opens := opensOf(nodes)
		states = append(states, stateOf(nodes, opens[len(opens)-1]...))
	}
	return states
}

func memoryTokens() [][]impl.Token {
	lists := [][]impl.Token{
		nil, list(byteToken('x')), list(note()), list(end("p")), list(start("p", attr("title", "t"), attr("b", ""))), list(shut("img", attr("src", "some value"))), list(start("B", attr("a", "x"))), list(byteToken('x'), impl.Token{}),
		asBytes(strings.Repeat("x", 241)), slices.Repeat(list(start("p", attr("a", "b"))), 61),
		joined(asBytes("abc"), list(start("b", attr("a", "1"), attr("c", "2"))), asBytes("def"), list(end("b"), start("b", attr("a", "1"))), asBytes("g")),
	}
	for seed := range uint32(6) {
		lists = append(lists, buildTokens(int(3+seed*3), seed))
	}
	return lists
}

// buildCalls are all calls that a state, tokens or a text are given to.
func buildCalls(x impl.BuildState, tokens []impl.Token, data []byte) []impl.BuildResult {
	tree, parsed := impl.BuildTree(tokens), impl.ParseText(data)
	all := []impl.BuildResult{
		impl.PutAll(x, tokens), impl.PutAll(x, nil), impl.PutToken(x, note()),
		{Code: tree.Code, State: stateOf(tree.Nodes)}, {Code: parsed.Code, State: stateOf(parsed.Nodes)}, {Code: impl.BuildFault(x)},
	}
	for _, token := range tokens[:min(len(tokens), 3)] {
		all = append(all, impl.PutToken(x, token))
	}
	return all
}

func shownBuilds(results []impl.BuildResult) string {
	var text strings.Builder
	for _, r := range results {
		text.WriteString(fmt.Sprint(r.Code, shownBuild(r.State)) + "\n")
	}
	return text.String()
}

// memoryText is a text with attributes and texts that are long enough to be seen.
func memoryText(seed int) string {
	return "some text<a href=\"value\" title=\"another\">" + buildText(seed%12, uint32(seed)) + "</a>"
}

// eachMemory tells states and tokens, each with memory of their own and room behind them.
func eachMemory(tell func(x impl.BuildState, tokens []impl.Token, data []byte)) {
	for i, x := range memoryBuilds() {
		for j, tokens := range memoryTokens() {
			tell(roomyBuild(x), roomyTokens(tokens), roomyBytes([]byte(memoryText(i+j))))
		}
	}
}

// P1: no call changes a state, tokens or a text, the attributes and texts among them, nor the room behind them.
func TestBuildingChangesNoArgument(t *testing.T) {
	eachMemory(func(x impl.BuildState, tokens []impl.Token, data []byte) {
		other := roomyBuild(x)
		before := wholeBuild(x) + wholeTokens(tokens) + string(data[:cap(data)])
		buildCalls(x, tokens, data)
		impl.SameBuilds(x, other)
		impl.SameBuilds(other, x)
		if wholeBuild(x)+wholeTokens(tokens)+string(data[:cap(data)]) != before || shownBuild(other) != shownBuild(x) {
			t.Errorf("%s, %s or %q was changed", briefBuild(x), briefTokens(tokens), data)
		}
	})
}

// P1: what is written to an argument is not seen in an answer, and what is written to an answer in nothing else.
func TestBuildingSharesNoMemory(t *testing.T) {
	eachMemory(func(x impl.BuildState, tokens []impl.Token, data []byte) {
		what := briefBuild(x) + " with " + briefTokens(tokens)
		before := wholeBuild(x) + wholeTokens(tokens) + string(data[:cap(data)])
		want := buildCalls(x, tokens, data)
		shown := shownBuilds(want)
		got := buildCalls(x, tokens, data)
		for _, r := range got {
			scribbleBuild(r.State)
		}
		if wholeBuild(x)+wholeTokens(tokens)+string(data[:cap(data)]) != before {
			t.Errorf("%s: what is written to an answer is seen in an argument", what)
		}
		if shownBuilds(want) != shown || shownBuilds(buildCalls(x, tokens, data)) != shown {
			t.Errorf("%s: what is written to an answer is seen in another one", what)
		}
		scribbleBuild(x)
		scribbleTokens(tokens)
		scribbleBytes(data)
		if shownBuilds(want) != shown {
			t.Errorf("%s: what is written to an argument is seen in an answer", what)
		}
	})
}

// wordSpan is where a word lies.
func wordSpan(word string) span {
	from := uintptr(unsafe.Pointer(unsafe.StringData(word)))
	return span{from, from + uintptr(len(word))}
}

// namesOfNodes are where the words of nodes lie.
func namesOfNodes(nodes []impl.Node) []span {
	var spans []span
	for _, n := range nodes {
		spans = append(spans, wordSpan(n.Tag))
		for _, a := range n.Attrs {
			spans = append(spans, wordSpan(a.Name))
		}
	}
	return spans
}

// givenSpans are where all lists and words of arguments lie, with room of their own.
func givenSpans(x impl.BuildState, tokens []impl.Token, data []byte) []span {
	spans := append(spansOfNodes(x.Nodes), spanOf(x.Open), spanOf(tokens), spanOf(data))
	spans = append(spans, namesOfNodes(x.Nodes)...)
	for _, token := range tokens {
		spans = append(spans, spanOf(token.Attrs), wordSpan(token.Name))
		for _, a := range token.Attrs {
			spans = append(spans, spanOf(a.Value), wordSpan(a.Name))
		}
	}
	return spans
}

func haveRoom(spans []span) []span {
	return slices.DeleteFunc(spans, func(s span) bool { return s.from >= s.to })
}

func overlap(a span, b span) bool {
	return a.from < b.to && b.from < a.to
}

// P1: no list of an answer lies in the memory of an argument, nor in that of another list of it.
func TestListsOfABuildingLieApart(t *testing.T) {
	eachMemory(func(x impl.BuildState, tokens []impl.Token, data []byte) {
		given := haveRoom(givenSpans(x, tokens, data))
		for _, r := range buildCalls(x, tokens, data) {
			lists := haveRoom(append(spansOfNodes(r.State.Nodes), spanOf(r.State.Open)))
			for i, a := range lists {
				if slices.ContainsFunc(lists[:i], func(b span) bool { return overlap(a, b) }) {
					t.Errorf("%s with %s: two lists of an answer share memory", briefBuild(x), briefTokens(tokens))
				}
			}
			for _, a := range append(lists, haveRoom(namesOfNodes(r.State.Nodes))...) {
				if slices.ContainsFunc(given, func(b span) bool { return overlap(a, b) }) {
					t.Errorf("%s with %s: an answer shares memory with an argument", briefBuild(x), briefTokens(tokens))
				}
			}
		}
	})
}

// P1: what is answered hangs on the arguments alone, not on what was called ahead of it.
func TestBuildingKeepsNothing(t *testing.T) {
	states, lists := memoryBuilds(), memoryTokens()
	call := func(i int) string {
		return shownBuilds(buildCalls(states[i%len(states)], lists[i%len(lists)], []byte(memoryText(i))))
	}
	var first []string
	for i := range 200 {
		first = append(first, call(i))
	}
	for round := range 3 {
		for i := range 200 {
			at := (i*7 + round*31) % 200
			if call(at) != first[at] {
				t.Errorf("%s: another answer than at first", briefBuild(states[at%len(states)]))
			}
		}
	}
}
