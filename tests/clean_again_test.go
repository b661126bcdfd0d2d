package tests

import (
	"strings"
	"testing"

	"loop.example/g00606/impl"
)

// writtenOtherwise are texts of trees that are allowed, each with the one text that is clean of that tree.
func writtenOtherwise() map[string]string {
	return map[string]string{
		"<b >x</b>": "<b>x</b>", "<b  >x</b>": "<b>x</b>", `<b  title="t">x</b>`: `<b title="t">x</b>`, `<b title="t" >x</b>`: `<b title="t">x</b>`, `<b title="t"  width="1">x</b>`: `<b title="t" width="1">x</b>`,
		"&#60;": "&lt;", "a&#98;c": "abc", "&#38;lt;": "&amp;lt;", `<b title="&#60;">x</b>`: `<b title="&lt;">x</b>`, `<b title="<">x</b>`: `<b title="&lt;">x</b>`, `<b title="&">x</b>`: `<b title="&amp;">x</b>`, `<b title="a&#98;">x</b>`: `<b title="ab">x</b>`,
		"<br/>": "<br>", "<br />": "<br>", "<b/>": "<b></b>", `<img src="x"/>`: `<img src="x">`, "<p/>x": "<p></p>x",
		"<b>x": "<b>x</b>", "<b><i>x</b>": "<b><i>x</i></b>", "<p>x<p>y</p>": "<p>x</p><p>y</p>", "<b>": "<b></b>", "<b>x</b></b>": "<b>x</b>", "x</b>": "x", "<br></br>": "<br>",
		"<!---->x": "x", "x<!-- y -->": "x", "<b><!----></b>": "<b></b>", ">": "&gt;", "\"": "&quot;", "<": "&lt;", "&": "&amp;", "<b>></b>": "<b>&gt;</b>",
		`<b title="t" title="u">x</b>`: `<b title="t">x</b>`,
	}
}

// A tree has one text that is clean, and a text of it that is written in another way is not.
func TestTextsWrittenInAnotherWay(t *testing.T) {
	p := openPolicy()
	for text, own := range writtenOtherwise() {
		if tree := impl.ParseText([]byte(text)).Nodes; !impl.IsAllowed(p, tree) {
			t.Errorf("%q: its tree is not allowed, which says too little", text)
		}
		wantIsClean(t, p, text, false)
		wantIsClean(t, p, own, true)
		wantOut(t, p, text, own)
		wantIsClean(t, p, "<i></i>"+text, false)
		wantOut(t, p, "<i></i>"+text, "<i></i>"+own)
	}
	// Attributes in another order are another tree, and both are clean.
	wantStaysClean(t, p, `<b title="t" width="1">x</b>`, `<b width="1" title="t">x</b>`, `<b href="x" src="y">x</b>`, `<b src="y" href="x">x</b>`)
	// So is what a policy does not let in: it is not clean, though it stays as it is by another one.
	wantIsClean(t, policyOf("i", "", ""), "<b>x</b>", false)
	wantIsClean(t, policyOf("b", "", ""), `<b title="t">x</b>`, false)
	wantIsClean(t, policyOf("a", "href", ""), `<a href="http:x">y</a>`, false)
	wantIsClean(t, openPolicy(), "<script></script>", false)
	wantIsClean(t, openPolicy(), "<u>x</u>", false)
}

// What comes out with one byte more, one less, or one that is another one: each time as the document asks.
func TestIsCleanOfTextsWithOneByteChanged(t *testing.T) {
	p := policyOf("a b br p", "href title width", "http")
	texts := []string{`<p title="t">a&lt;<br></p>z`, `<a href="http:x" width="1.5">y</a>`, "<b>x<b></b></b>&amp;", "some text", "&quot;", "<p></p><p></p>"}
	some := "<>\"&/ =;ab1p\n\x00"
	clean, other := 0, 0
	tell := func(text string) {
		out := wantCleaned(t, p, text)
		if out.Code == impl.OK && string(out.Bytes) == text {
			clean++
		} else {
			other++
		}
	}
	for _, text := range texts {
		wantStaysClean(t, p, text)
		for at := range len(text) + 1 {
			for i := range len(some) {
				tell(text[:at] + some[i:i+1] + text[at:])
				if at < len(text) {
					tell(text[:at] + some[i:i+1] + text[at+1:])
				}
			}
			if at < len(text) {
				tell(text[:at] + text[at+1:])
			}
		}
	}
	if clean < 100 || other < 500 {
		t.Errorf("%d texts are clean, %d are not: that says too little", clean, other)
	}
	// The same, told one by one.
	for text, want := range map[string]bool{
		"<b>x</b>": true, "<b>x</b": false, "<b>x</>": false, "<b>x/b>": false, "<b>x<b>": false, "<b>x</b>>": false, "<b>x</b>y": true, "<b></b>": true, "<>x</b>": false, "b>x</b>": false, "<bx</b>": false, "<b>xy</b>": true, "<b >x</b>": false,
		"<p>x</p>": true, "<b>x</p>": false, "<p>x</b>": false, "&lt;": true, "&lt": false, "lt;": true, "&gt;": true, "&l;": false, "&lt;;": true, "&&lt;": false,
	} {
		wantIsClean(t, p, text, want)
	}
}

// Wherever SanitizeText has a code a text is not clean.
func TestIsCleanBesideACode(t *testing.T) {
	for code, p := range wrongPolicies() {
		for _, text := range []string{"", "x", "<b>x</b>", "&lt;"} {
			wantCleanCodes(t, p, text, code, code)
			wantIsClean(t, p, text, false)
		}
		if impl.IsClean(p, nil) {
			t.Errorf("IsClean of nothing by %s: got true", briefPolicy(p))
		}
	}
	for _, n := range []int{241, 500, 5000} {
		wantIsClean(t, impl.Policy{}, string(make([]byte, n)), false)
	}
	for _, text := range []string{strings.Repeat("<p>", 35), strings.Repeat("\"", 41), strings.Repeat("<p>", 60)} {
		wantCleanCodes(t, openPolicy(), text, impl.OK, impl.ErrLarge)
	}
}
