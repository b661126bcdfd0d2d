package tests

import (
	"bytes"
	"fmt"
	"math"
	"strings"
	"testing"

	"loop.example/g00606/impl"
)

// textInside is the text of all nodes that have that Up, in their order.
func textInside(nodes []impl.Node, up int) string {
	text := ""
	for at, n := range nodes {
		if n.Up == int64(up) {
			text += textOfNode(nodes, at)
		}
	}
	return text
}

// textOfNode is the document's text of a node and of all that is in it, however large.
func textOfNode(nodes []impl.Node, at int) string {
	n := nodes[at]
	if n.Tag == "" {
		return escaped(string(n.Text))
	}
	text := tagText(start(n.Tag, n.Attrs...)) + textInside(nodes, at)
	if n.Tag == "br" || n.Tag == "img" {
		return text
	}
	return text + "</" + n.Tag + ">"
}

// textAhead is all that stands ahead of a node: the starts of those that it is in, and
// all of what is ahead of it, or of one of these, in the same one.
func textAhead(nodes []impl.Node, at int) string {
	text := ""
	for other := range at {
		if nodes[other].Up == nodes[at].Up {
			text += textOfNode(nodes, other)
		}
	}
	if up := int(nodes[at].Up); up >= 0 {
		return textAhead(nodes, up) + tagText(start(nodes[up].Tag, nodes[up].Attrs...)) + text
	}
	return text
}

// openOf is what the document asks of OpenText.
func openOf(tag string, attrs []impl.Attr) impl.TextResult {
	if code := faultOf(start(tag, attrs...)); code != impl.OK {
		return impl.TextResult{Code: code}
	}
	text := tagText(start(tag, attrs...))
	if len(text) > 160 {
		return impl.TextResult{Code: impl.ErrLarge}
	}
	return impl.TextResult{Text: text}
}

// boundOf is what the document asks of a text that stands in these nodes: the code of each start of them all, and its own size.
func boundOf(nodes []impl.Node, text string) impl.BytesResult {
	for _, n := range nodes {
		if n.Tag == "" {
			continue
		}
		if code := openOf(n.Tag, n.Attrs).Code; code != impl.OK {
			return impl.BytesResult{Code: code}
		}
	}
	if len(text) > 240 {
		return impl.BytesResult{Code: impl.ErrLarge}
	}
	return impl.BytesResult{Bytes: []byte(text)}
}

// treeWrittenOf is what the document asks of WriteTree.
func treeWrittenOf(nodes []impl.Node) impl.BytesResult {
	if code := treeFaultOf(nodes); code != impl.OK {
		return impl.BytesResult{Code: code}
	}
	return boundOf(nodes, textInside(nodes, -1))
}

// nodeWrittenOf is what the document asks of WriteNode, where the tree has no fault.
func nodeWrittenOf(nodes []impl.Node, at int64) impl.BytesResult {
	if at < 0 || at >= int64(len(nodes)) {
		return impl.BytesResult{Code: impl.ErrRange}
	}
	return boundOf(nodes, textOfNode(nodes, int(at)))
}

// spanToldOf is what the document asks of SpanOf, where WriteTree has no code.
func spanToldOf(nodes []impl.Node, at int64) impl.SpanResult {
	if at < 0 || at >= int64(len(nodes)) {
		return impl.SpanResult{Code: impl.ErrRange}
	}
	return impl.SpanResult{From: int64(len(textAhead(nodes, int(at)))), Size: int64(len(textOfNode(nodes, int(at))))}
}

func wantTold(t *testing.T, what string, got impl.BytesResult, want impl.BytesResult) {
	t.Helper()
	if got.Code != want.Code || !bytes.Equal(got.Bytes, want.Bytes) {
		t.Errorf("%s: got %d, %.250q, want %d, %.250q", what, got.Code, got.Bytes, want.Code, want.Bytes)
	}
}

func wantSpan(t *testing.T, nodes []impl.Node, at int64, want impl.SpanResult) {
	t.Helper()
	if got := impl.SpanOf(nodes, at); got != want {
		t.Errorf("SpanOf of %s, %d: got %+v, want %+v", briefNodes(nodes), at, got, want)
	}
}

// wantWriting holds the writing of a tree, and of each place, against the document's words, and asks P11 of it.
func wantWriting(t *testing.T, nodes []impl.Node) impl.BytesResult {
	t.Helper()
	wantPlaces(t, nodes, placesToAsk(nodes))
	wantReadAgain(t, nodes)
	return impl.WriteTree(nodes)
}

// wantPlaces holds WriteTree, and WriteNode and SpanOf at these places, against the document's words.
func wantPlaces(t *testing.T, nodes []impl.Node, places []int64) {
	t.Helper()
	whole := treeWrittenOf(nodes)
	wantTold(t, "WriteTree of "+briefNodes(nodes), impl.WriteTree(nodes), whole)
	fault := treeFaultOf(nodes)
	for _, at := range places {
		node, told := impl.BytesResult{Code: fault}, impl.SpanResult{Code: whole.Code}
		if fault == impl.OK {
			node = nodeWrittenOf(nodes, at)
		}
		if whole.Code == impl.OK {
			told = spanToldOf(nodes, at)
		}
		wantTold(t, fmt.Sprintf("WriteNode of %s, %d", briefNodes(nodes), at), impl.WriteNode(nodes, at), node)
		wantSpan(t, nodes, at, told)
	}
}

// wantReadAgain asks P11, without a word on how a text is written.
func wantReadAgain(t *testing.T, nodes []impl.Node) {
	t.Helper()
	whole := impl.WriteTree(nodes)
	if whole.Code != impl.OK {
		return
	}
	if impl.IsStable(nodes) {
		read := impl.ParseText(whole.Bytes)
		wantNodes(t, fmt.Sprintf("ParseText of %q", whole.Bytes), read, impl.NodesResult{Nodes: nodes})
		if !impl.SameTrees(read.Nodes, nodes) {
			t.Errorf("%q is not read as %s", whole.Bytes, briefNodes(nodes))
		}
	}
	spans := make([]impl.SpanResult, len(nodes))
	for at, n := range nodes {
		one := impl.SpanOf(nodes, int64(at))
		own := impl.WriteNode(nodes, int64(at))
		if one.Code != impl.OK || own.Code != impl.OK || one.Size < 1 || one.From < 0 || one.From+one.Size > int64(len(whole.Bytes)) {
			t.Fatalf("%s, %d: the span is %+v, the text %d, %q", briefNodes(nodes), at, one, own.Code, own.Bytes)
		}
		if stands := whole.Bytes[one.From : one.From+one.Size]; !bytes.Equal(stands, own.Bytes) {
			t.Errorf("%s, %d: %q stands there, not %q", briefNodes(nodes), at, stands, own.Bytes)
		}
		spans[at] = one
		if up := n.Up; up >= 0 && (one.From <= spans[up].From || one.From+one.Size >= spans[up].From+spans[up].Size) {
			t.Errorf("%s: %d at %+v is not within %d at %+v", briefNodes(nodes), at, one, up, spans[up])
		}
	}
}

// wantAsText holds WriteTree against a text that is told.
func wantAsText(t *testing.T, nodes []impl.Node, want string) {
	t.Helper()
	got := wantWriting(t, nodes)
	wantTold(t, "WriteTree of "+briefNodes(nodes), got, impl.BytesResult{Bytes: []byte(want)})
}

// wantNodeText holds WriteNode against a text that is told, whatever the tree is.
func wantNodeText(t *testing.T, nodes []impl.Node, at int64, want string) {
	t.Helper()
	wantPlaces(t, nodes, []int64{at})
	wantTold(t, fmt.Sprintf("WriteNode of %s, %d", briefNodes(nodes), at), impl.WriteNode(nodes, at), impl.BytesResult{Bytes: []byte(want)})
}

// wantCodes holds the three functions against the codes that are told; beside them there is nothing else.
func wantCodes(t *testing.T, nodes []impl.Node, at int64, tree int64, node int64, span int64) {
	t.Helper()
	wantPlaces(t, nodes, []int64{at})
	if got := impl.WriteTree(nodes); got.Code != tree || got.Code != impl.OK && len(got.Bytes) > 0 {
		t.Errorf("WriteTree of %s: got %d, %.80q, want %d", briefNodes(nodes), got.Code, got.Bytes, tree)
	}
	if got := impl.WriteNode(nodes, at); got.Code != node || got.Code != impl.OK && len(got.Bytes) > 0 {
		t.Errorf("WriteNode of %s, %d: got %d, %.80q, want %d", briefNodes(nodes), at, got.Code, got.Bytes, node)
	}
	if got := impl.SpanOf(nodes, at); got.Code != span || got.Code != impl.OK && got != (impl.SpanResult{Code: span}) {
		t.Errorf("SpanOf of %s, %d: got %+v, want %d", briefNodes(nodes), at, got, span)
	}
}

// wantOpen holds OpenText against a text that is told; it is read as the start that it was made of.
func wantOpen(t *testing.T, tag string, attrs []impl.Attr, want string) {
	t.Helper()
	wantOpening(t, tag, attrs)
	if got := impl.OpenText(tag, attrs); got != (impl.TextResult{Text: want}) {
		t.Errorf("OpenText of %q, %s: got %+v, want %q", tag, shownAttrs(attrs), got, want)
	}
}

// wantOpenCode holds OpenText against a code; beside it there is nothing else.
func wantOpenCode(t *testing.T, tag string, attrs []impl.Attr, code int64) {
	t.Helper()
	wantOpening(t, tag, attrs)
	if got := impl.OpenText(tag, attrs); got != (impl.TextResult{Code: code}) {
		t.Errorf("OpenText of %.80q, %.300s: got %+v, want the code %d", tag, shownAttrs(attrs), got, code)
	}
}

// wantOpening holds OpenText against the document's words.
func wantOpening(t *testing.T, tag string, attrs []impl.Attr) {
	t.Helper()
	want := openOf(tag, attrs)
	if got := impl.OpenText(tag, attrs); got != want {
		t.Errorf("OpenText of %.80q, %.300s: got %+v, want %+v", tag, shownAttrs(attrs), got, want)
	}
	if want.Code == impl.OK {
		wantTag(t, want.Text, start(tag, attrs...))
	}
}

// noPlaces are numbers that are no place of a tree of n nodes.
func noPlaces(n int) []int64 {
	return []int64{-1, -2, int64(n), int64(n) + 1, 1 << 32, 1<<32 + 1, math.MinInt64, math.MaxInt64}
}

// sized is an element whose start has that many bytes, of one attribute.
func sized(up int64, n int) impl.Node {
	return element(up, "b", attr("a", strings.Repeat("x", n-len(`<b a="">`))))
}
