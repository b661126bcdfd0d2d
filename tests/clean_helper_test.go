package tests

import (
	"fmt"
	"slices"
	"strings"
	"testing"

	"loop.example/g00606/impl"
)

// readOf is what the document asks of ParseText.
func readOf(text string) impl.NodesResult {
	if len(text) > 240 {
		return impl.NodesResult{Code: impl.ErrLarge}
	}
	read := wholeText(text)
	return treeOf(putOf(impl.BuildState{}, joined(read.tokens, asBytes(read.held))))
}

// cleanOf is what the document asks of CleanTree.
func cleanOf(p impl.Policy, text string) impl.NodesResult {
	if code := policyFaultOf(p); code != impl.OK {
		return impl.NodesResult{Code: code}
	}
	read := readOf(text)
	if read.Code != impl.OK {
		return impl.NodesResult{Code: read.Code}
	}
	return filteredOf(p, read.Nodes)
}

// sanitizedOf is what the document asks of SanitizeText, by what it asks of CleanTree.
func sanitizedOf(clean impl.NodesResult) impl.BytesResult {
	if clean.Code != impl.OK {
		return impl.BytesResult{Code: clean.Code}
	}
	return treeWrittenOf(clean.Nodes)
}

// escapedAllOf is what the document asks of EscapeAll.
func escapedAllOf(text string) impl.BytesResult {
	if len(text) > 240 || len(escaped(text)) > 240 {
		return impl.BytesResult{Code: impl.ErrLarge}
	}
	return impl.BytesResult{Bytes: []byte(escaped(text))}
}

func briefClean(p impl.Policy, text string) string {
	return fmt.Sprintf("%.300q by %s", text, briefPolicy(p))
}

// letsInNothing tells whether no element may be by a policy.
func letsInNothing(p impl.Policy) bool {
	return !slices.ContainsFunc(tagsThatAreSafe(), func(tag string) bool { return mayTagOf(p, tag) })
}

// wantCleaned holds SanitizeText, CleanTree and IsClean against the document's words, and asks P12 of what comes out.
func wantCleaned(t *testing.T, p impl.Policy, text string) impl.BytesResult {
	t.Helper()
	what := briefClean(p, text)
	clean := cleanOf(p, text)
	want := sanitizedOf(clean)
	wantNodes(t, "CleanTree of "+what, impl.CleanTree(p, []byte(text)), clean)
	got := impl.SanitizeText(p, []byte(text))
	wantTold(t, "SanitizeText of "+what, got, want)
	wantIsClean(t, p, text, want.Code == impl.OK && string(want.Bytes) == text)
	if got.Code == impl.OK {
		wantPure(t, p, text, string(got.Bytes))
	}
	return got
}

// wantPure asks P12 of what comes out of a text, without a word on how that is done.
func wantPure(t *testing.T, p impl.Policy, text string, out string) {
	t.Helper()
	what := briefClean(p, text)
	given := impl.ParseText([]byte(text))
	clean := impl.CleanTree(p, []byte(text))
	read := impl.ParseText([]byte(out))
	if given.Code != impl.OK || clean.Code != impl.OK || len(out) > impl.MaxOut {
		t.Errorf("SanitizeText of %s: the codes are %d and %d, but %d bytes come out", what, given.Code, clean.Code, len(out))
	}
	wantNodes(t, fmt.Sprintf("ParseText of %q, which comes out of %s", out, what), read, clean)
	if !impl.IsAllowed(p, clean.Nodes) || !impl.IsStable(clean.Nodes) {
		t.Errorf("CleanTree of %s: %s is not allowed, or not stable", what, briefNodes(clean.Nodes))
	}
	wantIsClean(t, p, out, true)
	wantTold(t, "SanitizeText again of "+what, impl.SanitizeText(p, []byte(out)), impl.BytesResult{Bytes: []byte(out)})
	wantNodes(t, "CleanTree again of "+what, impl.CleanTree(p, []byte(out)), clean)
	if impl.IsAllowed(p, given.Nodes) {
		wantNodes(t, "CleanTree of the allowed text "+what, clean, given)
		wantTold(t, "WriteTree of the allowed text "+what, impl.WriteTree(given.Nodes), impl.BytesResult{Bytes: []byte(out)})
	}
	if kept := textOutside(read.Nodes); kept != textOutside(given.Nodes) {
		t.Errorf("SanitizeText of %s: the text is %q, not %q", what, kept, textOutside(given.Nodes))
	}
	if letsInNothing(p) {
		wantTextAlone(t, what, out)
	}
}

// wantTextAlone holds what comes out against being one text at most, and no element.
func wantTextAlone(t *testing.T, what string, out string) {
	t.Helper()
	nodes := impl.ParseText([]byte(out)).Nodes
	if len(nodes) > 1 || len(nodes) == 1 && nodes[0].Tag != "" || strings.ContainsAny(out, "<>\"") {
		t.Errorf("SanitizeText of %s: %q is more than one text", what, out)
	}
}

func wantIsClean(t *testing.T, p impl.Policy, text string, want bool) {
	t.Helper()
	if got := impl.IsClean(p, []byte(text)); got != want {
		t.Errorf("IsClean of %s: got %v", briefClean(p, text), got)
	}
}

// wantOut holds what comes out of a text against a text that is told.
func wantOut(t *testing.T, p impl.Policy, text string, want string) {
	t.Helper()
	got := wantCleaned(t, p, text)
	wantTold(t, "SanitizeText of "+briefClean(p, text), got, impl.BytesResult{Bytes: []byte(want)})
	wantIsClean(t, p, text, text == want)
	wantIsClean(t, p, want, true)
}

// wantStaysClean holds a text against coming out as it is.
func wantStaysClean(t *testing.T, p impl.Policy, texts ...string) {
	t.Helper()
	for _, text := range texts {
		wantOut(t, p, text, text)
	}
}

// wantCleanCodes holds CleanTree and SanitizeText against codes that are told; beside them there is nothing else.
func wantCleanCodes(t *testing.T, p impl.Policy, text string, tree int64, out int64) {
	t.Helper()
	wantCleaned(t, p, text)
	wantCodesOfText(t, p, []byte(text), tree, out)
}

// wantCodesOfText is wantCleanCodes of what is too large for the test's own ways.
func wantCodesOfText(t *testing.T, p impl.Policy, data []byte, tree int64, out int64) {
	t.Helper()
	what := briefClean(p, string(data))
	if got := impl.CleanTree(p, data); got.Code != tree || got.Code != impl.OK && len(got.Nodes) > 0 {
		t.Errorf("CleanTree of %s: got %d, %s, want %d", what, got.Code, briefNodes(got.Nodes), tree)
	}
	if got := impl.SanitizeText(p, data); got.Code != out || got.Code != impl.OK && len(got.Bytes) > 0 {
		t.Errorf("SanitizeText of %s: got %d, %q, want %d", what, got.Code, got.Bytes, out)
	}
	if out != impl.OK {
		wantIsClean(t, p, string(data), false)
	}
}

// wantEscapedAll holds EscapeAll against the document's words; by every one of the policies it comes out as it is.
func wantEscapedAll(t *testing.T, text string, policies ...impl.Policy) impl.BytesResult {
	t.Helper()
	got := impl.EscapeAll([]byte(text))
	wantTold(t, fmt.Sprintf("EscapeAll of %.300q", text), got, escapedAllOf(text))
	if got.Code != impl.OK {
		return got
	}
	out := string(got.Bytes)
	if back := impl.DecodeText(out); string(back.Bytes) != text || strings.ContainsAny(out, "<>\"") {
		t.Errorf("EscapeAll of %q: %q is read back as %q", text, out, back.Bytes)
	}
	var want []impl.Node
	if text != "" {
		want = nodesOf(textNode(-1, text))
	}
	for _, p := range policies {
		what := briefClean(p, out)
		wantTold(t, "SanitizeText of the escaped text "+what, impl.SanitizeText(p, got.Bytes), got)
		wantNodes(t, "CleanTree of the escaped text "+what, impl.CleanTree(p, got.Bytes), impl.NodesResult{Nodes: want})
		wantIsClean(t, p, out, true)
	}
	return got
}

// rightPolicies are those of all kinds that have no fault.
func rightPolicies() []impl.Policy {
	return slices.DeleteFunc(append(filterPolicies(), policiesOfAllKinds()...), func(p impl.Policy) bool { return policyFaultOf(p) != impl.OK })
}

// wrongPolicies are policies with a fault, one of each code.
func wrongPolicies() map[int64]impl.Policy {
	return map[int64]impl.Policy{
		impl.ErrMany: {Schemes: rising(11)}, impl.ErrText: policyOf("b", "B", ""), impl.ErrForm: policyOf("b", "title", "https http"),
	}
}
