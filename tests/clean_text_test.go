package tests

import (
	"strings"
	"testing"

	"loop.example/g00606/impl"
)

// cleanParts are what texts are made of that have something to let through, and something to keep out.
func cleanParts() []string {
	return append(buildParts(), "<u>", "</u>", "<style>", "</style>", `<a href="http:x">`, `<a href="js:x" title="y">`, `<img src="/x" width="01.50">`, `<b onload="x">`, `<i title="&quot;<>">`, `<b title="x" href="y" width="1">`, "&#60;", "&amp;", "&quot;", "&#106;", "<script/>", "\n")
}

// cleanText is a text of n parts that has at most MaxText bytes.
func cleanText(n int, seed uint32) string {
	text := mixed(cleanParts(), n, seed)
	return text[:min(len(text), impl.MaxText)]
}

// eachText tells every text of at most n of the parts, one behind the other.
func eachText(parts []string, n int, tell func(text string)) {
	letters := "abcdefghijklmnopqrstuvwxyz"[:len(parts)]
	wordsUpTo(letters, n, func(word string) {
		var text strings.Builder
		for i := range len(word) {
			text.WriteString(parts[word[i]-'a'])
		}
		tell(text.String())
	})
}

// P12: every short text of marks that may be, may not be, are dropped, and end what is not there.
func TestShortTextsAreSanitized(t *testing.T) {
	policies := []impl.Policy{{}, policyOf("b p", "", ""), policyOf("p", "", "")}
	count := 0
	eachText([]string{"<p>", "</p>", "<b>", "</b>", "<u>", "</u>", "<script>", "</script>", "x"}, 4, func(text string) {
		count++
		wantCleaned(t, policies[count%len(policies)], text)
	})
	eachText([]string{"<b>", "</b>", "<p>", "x", "<br>"}, 5, func(text string) {
		count++
		wantCleaned(t, policyOf("b br p", "", ""), text)
	})
	eachText([]string{"<", ">", "\"", "&", "/", "b", "lt;", " a=\"", "!--", "--"}, 4, func(text string) {
		count++
		wantCleaned(t, []impl.Policy{{}, policyOf("b", "a title", "")}[count%2], text)
	})
}

// P12: texts of every size by chance, by policies of all kinds.
func TestTextsOfManyKindsAreSanitized(t *testing.T) {
	policies := append(filterPolicies(), policiesOfAllKinds()...)
	count := map[int64]int{}
	changed, stays := 0, 0
	for seed := range uint32(4000) {
		text := cleanText(int(seed%45), seed*2654435761)
		p := policies[int(seed)%len(policies)]
		if seed%3 == 0 {
			p = openPolicy()
		}
		got := wantCleaned(t, p, text)
		count[got.Code]++
		if got.Code == impl.OK && len(got.Bytes) > 40 {
			changed++
			wantStaysClean(t, p, string(got.Bytes))
			stays += strings.Count(string(got.Bytes), "<")
		}
	}
	if count[impl.OK] < 1000 || count[impl.ErrLarge] < 200 || count[impl.ErrForm] < 50 || changed < 500 || stays < 3000 {
		t.Errorf("the codes are %v; of %d texts much comes out, with %d marks in all: that says too little", count, changed, stays)
	}
}

// P12: what is allowed comes out as it is written, whatever it is.
func TestAllowedTreesComeOut(t *testing.T) {
	count := 0
	for seed := range uint32(3000) {
		p := filterPolicies()[1+int(seed)%7]
		nodes := impl.FilterTree(p, filterTree(int(seed%14), 3+seed%13, seed*40503)).Nodes
		text := impl.WriteTree(nodes)
		if text.Code != impl.OK {
			continue
		}
		if len(nodes) > 4 {
			count++
		}
		wantStaysClean(t, p, string(text.Bytes))
		wantNodes(t, "CleanTree of "+briefClean(p, string(text.Bytes)), impl.CleanTree(p, text.Bytes), impl.NodesResult{Nodes: nodes})
		// By a policy that lets in more it stays, too.
		wantStaysClean(t, openPolicy(), string(text.Bytes))
	}
	if count < 300 {
		t.Errorf("only %d trees with some nodes come out: that says too little", count)
	}
	wantStaysClean(t, allowingPolicy(), string(impl.WriteTree(allowedTree()).Bytes))
}

// P12: what was escaped wholly comes out as it is, under every policy without a fault; under one with a fault nothing does.
func TestEscapedTextsComeOut(t *testing.T) {
	policies := rightPolicies()
	for _, text := range append(quotedTexts(), cleanParts()...) {
		wantEscapedAll(t, text, policies...)
	}
	for seed := range uint32(1500) {
		wantEscapedAll(t, cleanText(int(seed%20), seed*97), policies[int(seed)%len(policies)], impl.Policy{}, openPolicy())
	}
	for b := range 256 {
		wantEscapedAll(t, string([]byte{byte(b)}), impl.Policy{}, openPolicy())
		wantEscapedAll(t, string([]byte{'a', byte(b), byte(b), 'b'}), impl.Policy{}, openPolicy())
	}
	wordsUpTo("<>&\"b/;", 4, func(text string) {
		wantEscapedAll(t, text, impl.Policy{}, openPolicy())
	})
	for code, p := range wrongPolicies() {
		wantCleanCodes(t, p, "&lt;b&gt;", code, code)
	}
	// In two ways told, by the words of the document.
	for text, want := range map[string]string{"": "", "x": "x", "<b>": "&lt;b&gt;", "a&b": "a&amp;b", "\"&lt;\"": "&quot;&amp;lt;&quot;", "\x00\xff": "\x00\xff", "'": "'"} {
		wantTold(t, "EscapeAll", impl.EscapeAll([]byte(text)), impl.BytesResult{Bytes: []byte(want)})
	}
}

// quotedTexts are texts that look like what was escaped, or like marks.
func quotedTexts() []string {
	var texts []string
	for text, own := range quotedBytes() {
		texts = append(texts, text, own)
	}
	return append(texts, "<script>x</script>", "<b>y", "</p>", "<!-- x -->", "<a href=\"js:x\">", "&amp;lt;script&gt;", "some text", "")
}

// P12: under a policy that lets in nothing there is text alone, and no byte that was not there.
func TestPoliciesThatLetInNothing(t *testing.T) {
	none := []impl.Policy{{}, {Tags: []string{}}, policyOf("script style u", "", ""), policyOf("", "href title", "http"), policyOf("div form iframe object svg", "onload", "js")}
	for seed := range uint32(1500) {
		text := cleanText(int(seed%35), seed*40503)
		p := none[int(seed)%len(none)]
		got := wantCleaned(t, p, text)
		if got.Code != impl.OK {
			continue
		}
		nodes := impl.ParseText(got.Bytes).Nodes
		if len(nodes) > 1 || impl.CountTags(nodes, "").Value > 0 {
			t.Errorf("SanitizeText of %s: %q", briefClean(p, text), got.Bytes)
		}
		for _, tag := range append(tagsThatAreSafe(), "script", "style", "u") {
			if impl.CountTags(nodes, tag).Value > 0 {
				t.Errorf("SanitizeText of %s: %q has %s", briefClean(p, text), got.Bytes, tag)
			}
		}
		wantTold(t, "TextIn of what comes out of "+briefClean(p, text), impl.TextIn(nodes), impl.BytesResult{Bytes: []byte(textOutside(impl.ParseText([]byte(text)).Nodes))})
	}
	wantOut(t, impl.Policy{}, "<p>a<b>b</b></p><br>c<script>d</script><i>e</i>&lt;", "abce&lt;")
}
