package tests

import (
	"strings"
	"testing"

	"loop.example/g00606/impl"
)

// A policy's fault is asked ahead of all that a text may be: one that is right, and ones that are too large in each way.
func TestOrderOfCleanCodes(t *testing.T) {
	texts := []string{
		"", "x", "<b>x</b>", "<b>x", strings.Repeat("x", 240), strings.Repeat("x", 241), strings.Repeat("<p>", 61), strings.Repeat("\"", 41), strings.Repeat("<p>", 60) + "\"\"\"", strings.Repeat("<", 300), strings.Repeat("<p>", 100),
	}
	for code, policies := range badPolicies() {
		for _, p := range policies {
			for _, text := range texts {
				wantCleanCodes(t, p, text, code, code)
			}
		}
	}
	for code, p := range wrongPolicies() {
		wantCodesOfText(t, p, make([]byte, 1<<20), code, code)
		wantCodesOfText(t, p, nil, code, code)
	}
}

// Data of as many bytes as a text may have, and of one more, whatever they are.
func TestDataThatIsTooLarge(t *testing.T) {
	for _, p := range []impl.Policy{{}, openPolicy()} {
		x := strings.Repeat("x", 300)
		for _, n := range []int{238, 239, 240} {
			wantStaysClean(t, p, x[:n])
			wantEscapedAll(t, x[:n], p)
		}
		for _, n := range []int{241, 242, 300} {
			wantCleanCodes(t, p, x[:n], impl.ErrLarge, impl.ErrLarge)
			wantEscapedAllCode(t, x[:n])
		}
		// Of these nothing, or next to nothing, would come out.
		for _, text := range []string{"<!--" + x[:120] + "-->", "<script>" + x[:120] + "</script>", "<u title=\"" + x[:120] + "\">"} {
			fill := strings.Repeat("</b>", 60)
			full := text + fill[:(240-len(text))/4*4]
			full += strings.Repeat("y", 240-len(full))
			if got := wantCleaned(t, p, full); got.Code != impl.OK || len(got.Bytes) > 3 || len(full) != 240 {
				t.Errorf("SanitizeText of %s: got %d, %q", briefClean(p, full), got.Code, got.Bytes)
			}
			wantCleanCodes(t, p, full+"z", impl.ErrLarge, impl.ErrLarge)
			wantCleanCodes(t, p, full+"</b>", impl.ErrLarge, impl.ErrLarge)
		}
		for _, size := range []int{1 << 12, 1 << 20} {
			wantCodesOfText(t, p, make([]byte, size), impl.ErrLarge, impl.ErrLarge)
			wantCodesOfText(t, p, []byte(strings.Repeat("<", size)), impl.ErrLarge, impl.ErrLarge)
		}
	}
	for _, size := range []int{1 << 12, 1 << 20} {
		wantTold(t, "EscapeAll of many bytes", impl.EscapeAll(make([]byte, size)), impl.BytesResult{Code: impl.ErrLarge})
	}
}

// Trees of as many nodes as there may be, and of one more: too many are too many, even where none of them would be kept.
func TestTreesOfTextsThatAreTooLarge(t *testing.T) {
	small, none := policyOf("b br i", "", ""), impl.Policy{}
	for _, p := range []impl.Policy{none, small} {
		wantOut(t, p, strings.Repeat("<p>", 60), "")
		wantCleanCodes(t, p, strings.Repeat("<p>", 61), impl.ErrLarge, impl.ErrLarge)
		wantOut(t, p, strings.Repeat("<p>x", 30), strings.Repeat("x", 30))
		wantCleanCodes(t, p, strings.Repeat("<p>x", 30)+"<p>", impl.ErrLarge, impl.ErrLarge)
		wantOut(t, p, strings.Repeat("<p>x", 29)+"<p/>x", strings.Repeat("x", 30))
		wantCleanCodes(t, p, strings.Repeat("<p>x", 29)+"<p/>x<p>", impl.ErrLarge, impl.ErrLarge)
		wantOut(t, p, "<script>"+strings.Repeat("<p>", 59), "")
		wantCleanCodes(t, p, "<script>"+strings.Repeat("<p>", 60), impl.ErrLarge, impl.ErrLarge)
		wantOut(t, p, "<u>"+strings.Repeat("<p>", 58)+"x", "x")
		wantCleanCodes(t, p, "<u>"+strings.Repeat("<p>", 59)+"x", impl.ErrLarge, impl.ErrLarge)
	}
	wantStaysClean(t, small, strings.Repeat("<br>", 60))
	wantOut(t, small, strings.Repeat("<br>", 20)+strings.Repeat("<p>", 40), strings.Repeat("<br>", 20))
	wantCleanCodes(t, small, strings.Repeat("<br>", 20)+strings.Repeat("<p>", 41), impl.ErrLarge, impl.ErrLarge)
	// Notes, ends of nothing, and what is too deep to be opened, take no room.
	wantOut(t, small, strings.Repeat("<p>", 60)+"<!----></u></b>", "")
	wantOut(t, small, strings.Repeat("<i>", 80), strings.Repeat("<i>", 7)+strings.Repeat("</i>", 7))
}

// What comes out has 240 bytes, or 241, by what is escaped alone.
func TestOutThatIsTooLargeByEscapes(t *testing.T) {
	x := strings.Repeat("x", 240)
	for _, p := range []impl.Policy{{}, openPolicy()} {
		for _, one := range []string{"\"", ">", "&", "<", "&#34;", "&#60;", "&#62;", "&#38;", "&quot;", "&lt;", "&gt;", "&amp;"} {
			own := escaped(decoded(one))
			many := 240 / max(len(one), len(own))
			fits, rest := strings.Repeat(one, many), 240-many*len(own)
			wantOut(t, p, fits+x[:min(rest, 240-len(fits))], strings.Repeat(own, many)+x[:min(rest, 240-len(fits))])
			if len(one) < len(own) {
				wantCleanCodes(t, p, fits+x[:rest+1], impl.OK, impl.ErrLarge)
				wantCleanCodes(t, p, x[:rest+1]+fits, impl.OK, impl.ErrLarge)
				wantOut(t, p, x[:240-len(own)]+one, x[:240-len(own)]+own)
				if 241-len(own)+len(one) <= 240 {
					wantCleanCodes(t, p, x[:241-len(own)]+one, impl.OK, impl.ErrLarge)
					wantCleanCodes(t, p, one+x[:241-len(own)], impl.OK, impl.ErrLarge)
				}
			}
		}
		wantCleanCodes(t, p, strings.Repeat("\"", 240), impl.OK, impl.ErrLarge)
		wantCleanCodes(t, p, "<b <&&<<&&<<&&<<&&<<&&<<&&<<&&<<&&<<&&<<&&<<&&<<&&<<&&<<&&<<&&<<&&<<&&", impl.OK, impl.ErrLarge)
	}
	// What is escaped in a value counts, too.
	p := policyOf("b", "title", "")
	value := `<b title="` + strings.Repeat("\x27", 2) + `<<<<<<">`
	own := `<b title="''` + strings.Repeat("&lt;", 6) + `">`
	rest := 240 - len(own) - len("</b>")
	wantOut(t, p, value+x[:rest], own+x[:rest]+"</b>")
	wantCleanCodes(t, p, value+x[:rest+1], impl.OK, impl.ErrLarge)
}

// What comes out has 240 bytes, or 241, by ends that were not in the text alone.
func TestOutThatIsTooLargeByEnds(t *testing.T) {
	x := strings.Repeat("x", 240)
	p := openPolicy()
	wantOut(t, p, "<b>"+x[:233], "<b>"+x[:233]+"</b>")
	wantCleanCodes(t, p, "<b>"+x[:234], impl.OK, impl.ErrLarge)
	wantCleanCodes(t, p, "<b>"+x[:237], impl.OK, impl.ErrLarge)
	wantOut(t, p, x[:233]+"<i>", x[:233]+"<i></i>")
	wantCleanCodes(t, p, x[:234]+"<i>", impl.OK, impl.ErrLarge)
	wantOut(t, p, strings.Repeat("<p>", 34)+"xx", strings.Repeat("<p></p>", 33)+"<p>xx</p>")
	wantCleanCodes(t, p, strings.Repeat("<p>", 34)+"xxx", impl.OK, impl.ErrLarge)
	wantCleanCodes(t, p, strings.Repeat("<p>", 60), impl.OK, impl.ErrLarge)
	wantOut(t, p, strings.Repeat("<b>", 7)+x[:191], strings.Repeat("<b>", 7)+x[:191]+strings.Repeat("</b>", 7))
	wantCleanCodes(t, p, strings.Repeat("<b>", 7)+x[:192], impl.OK, impl.ErrLarge)
	wantCleanCodes(t, p, strings.Repeat("<b/>", 35), impl.OK, impl.ErrLarge)
	wantOut(t, p, strings.Repeat("<b/>", 34)+"xx", strings.Repeat("<b></b>", 34)+"xx")
	// An end that is in the text is not one more.
	wantStaysClean(t, p, "<b>"+x[:233]+"</b>", strings.Repeat("<b></b>", 34)+"xx")
	// Where the element is not kept nothing is too large.
	wantOut(t, impl.Policy{}, "<b>"+x[:237], x[:237])
}

// By both, and by more than one at once.
func TestOutThatIsTooLargeByBoth(t *testing.T) {
	x := strings.Repeat("x", 240)
	p := openPolicy()
	wantOut(t, p, "<b>"+x[:229]+">", "<b>"+x[:229]+"&gt;</b>")
	wantCleanCodes(t, p, "<b>"+x[:230]+">", impl.OK, impl.ErrLarge)
	wantOut(t, p, "<p>"+strings.Repeat("\"", 20)+"<p>"+strings.Repeat("\"", 17)+"xxxx", "<p>"+strings.Repeat("&quot;", 20)+"</p><p>"+strings.Repeat("&quot;", 17)+"xxxx</p>")
	wantCleanCodes(t, p, "<p>"+strings.Repeat("\"", 20)+"<p>"+strings.Repeat("\"", 17)+"xxxxx", impl.OK, impl.ErrLarge)
	wantCleanCodes(t, p, strings.Repeat("<p>\"", 30), impl.OK, impl.ErrLarge)
	wantCleanCodes(t, p, strings.Repeat("<p>\"", 30)+"<p>", impl.ErrLarge, impl.ErrLarge)
	wantCleanCodes(t, p, strings.Repeat("<p>\"", 61), impl.ErrLarge, impl.ErrLarge)
	wantOut(t, impl.Policy{}, strings.Repeat("<p>\"", 30), strings.Repeat("&quot;", 30))
}

// Texts that meet in the filter: as large as a text with a mark between them can be, they still have room, since each
// byte of a text has a byte of data. What is too large there is too large ahead of it; the filter's own code stands by its trees.
func TestTextsThatMeetInATextThatComesOut(t *testing.T) {
	p := policyOf("b", "", "")
	x := strings.Repeat("x", 240)
	for _, mark := range []string{"<u>", "</u>", "<p/>", "<p>", "<!---->", "<script>y</script>"} {
		room := 240 - len(mark)
		for _, ahead := range []int{0, 1, room / 2, room - 1, room} {
			wantOut(t, p, x[:ahead]+mark+x[:room-ahead], x[:room])
			wantCleanCodes(t, p, x[:ahead]+mark+x[:room-ahead+1], impl.ErrLarge, impl.ErrLarge)
		}
	}
	wantOut(t, p, strings.Repeat("xxxxx<u></u>", 20), strings.Repeat("xxxxx", 20))
	for _, sizes := range [][]int{{240, 1}, {120, 121}} {
		nodes := meeting(-1, "u", sizes...)
		wantFilterCode(t, p, nodes, impl.ErrLarge)
		wantKept(t, p, meeting(-1, "u", sizes[0]-1, sizes[1]), textNode(-1, metText(sizes[0]-1, sizes[1])))
	}
}

// wantEscapedAllCode holds EscapeAll against ErrLarge, beside which there is nothing else.
func wantEscapedAllCode(t *testing.T, text string) {
	t.Helper()
	wantEscapedAll(t, text)
	wantTold(t, "EscapeAll", impl.EscapeAll([]byte(text)), impl.BytesResult{Code: impl.ErrLarge})
}

// EscapeAll of data whose escaped text has as many bytes as may be, and one more.
func TestEscapedTextThatIsTooLarge(t *testing.T) {
	x := strings.Repeat("x", 241)
	for _, text := range []string{x[:240], x[:239], strings.Repeat("\"", 40), strings.Repeat("&", 48), strings.Repeat("<", 60), strings.Repeat(">", 60), x[:236] + "<", x[:234] + "\"", "&" + x[:235], x[:100] + "<>" + x[:132], strings.Repeat("\x00", 240)} {
		if got := wantEscapedAll(t, text, impl.Policy{}, openPolicy(), policyOf("b p", "", "")); got.Code != impl.OK || len(got.Bytes) < 239 {
			t.Errorf("EscapeAll of %q: got %d, %q", text, got.Code, got.Bytes)
		}
	}
	for _, text := range []string{x, x[:237] + "<", "<" + x[:237], x[:235] + "\"", "&" + x[:236], strings.Repeat("\"", 41), strings.Repeat("&", 48) + "x", "x" + strings.Repeat("<", 60), strings.Repeat("<", 61), x[:240] + "<", strings.Repeat("\"", 240), strings.Repeat("\"", 241), x[:239] + "<", x[:240] + "xx"} {
		wantEscapedAllCode(t, text)
	}
}

// P1: nothing panics, whatever it is given.
func TestJunkIsSanitized(t *testing.T) {
	policies := append(policiesOfAllKinds(), filterPolicies()...)
	for seed := range uint32(2000) {
		text := mixedText(int(seed%50), seed*77777)
		p := policies[int(seed)%len(policies)]
		wantCleaned(t, p, text)
		wantEscapedAll(t, text)
	}
	all := string(allBytes())
	for from := range 17 {
		wantCleaned(t, openPolicy(), all[from:from+239])
		wantEscapedAll(t, all[from:from+90], impl.Policy{}, openPolicy())
	}
	huge := impl.Policy{Tags: []string{strings.Repeat("b", 1<<20)}, Attrs: make([]string, 1<<16)}
	wantCodesOfText(t, huge, []byte("x"), impl.ErrMany, impl.ErrMany)
	huge.Attrs = nil
	wantCodesOfText(t, huge, []byte("x"), impl.ErrText, impl.ErrText)
	for code, lists := range badLists() {
		for i, words := range lists {
			wantCleanCodes(t, withList(openPolicy(), i%3, words), "<b>x", code, code)
		}
	}
}
