package tests

import (
	"fmt"
	"slices"
	"strings"
	"testing"

	"loop.example/g00606/impl"
)

// typedSession shows <b>x</b>.
func typedSession() impl.Session {
	return madeSession(policyOf("b", "", ""), "<b>x", 4)
}

// toldStep is a line with all that it has to come to, told.
type toldStep struct {
	line string
	code int64
	said string
	text string
}

func wantToldSteps(t *testing.T, s impl.Session, all ...toldStep) {
	t.Helper()
	for _, c := range all {
		got := wantLine(t, s, c.line)
		if got.Code != c.code || got.Said != c.said || string(got.Session.Memo.Data) != c.text || string(textOf(got.Session.Table)) != c.text {
			t.Errorf("StepScript by %q: got %d, %q, %s, want %d, %q, %q", c.line, got.Code, got.Said, briefSession(got.Session), c.code, c.said, c.text)
		}
	}
}

// One line of each kind, told.
func TestLinesThatAreTold(t *testing.T) {
	wantToldSteps(t, typedSession(),
		toldStep{"", impl.OK, "", "<b>x"},
		toldStep{"insert 4 y", impl.OK, "4,0,1", "<b>xy"},
		toldStep{"insert 0 <b>", impl.OK, "3,1,8", "<b><b>x"},
		toldStep{"insert 4 </b>", impl.OK, "none", "<b>x</b>"},
		toldStep{"insert 5 y", impl.ErrRange, "", ""},
		toldStep{"delete 0 3", impl.OK, "0,8,1", "x"},
		toldStep{"delete 0 4", impl.OK, "0,8,0", ""},
		toldStep{"delete 4 0", impl.OK, "none", "<b>x"},
		toldStep{"delete 4 1", impl.ErrRange, "", ""},
		toldStep{"replace 1 1 i", impl.OK, "0,8,1", "<i>x"},
		toldStep{"replace 3 1 y z", impl.OK, "3,1,3", "<b>y z"},
		toldStep{"replace 3 1 ", impl.OK, "3,1,0", "<b>"},
		toldStep{"replace 5 0 y", impl.ErrRange, "", ""},
		toldStep{"compact", impl.OK, "none", "<b>x"},
		toldStep{"policy - - -", impl.OK, "0,8,1", "<b>x"},
		toldStep{"policy b,i title http,js", impl.OK, "none", "<b>x"},
		toldStep{"policy i,b - -", impl.ErrForm, "", ""},
		toldStep{"text", impl.OK, "&lt;b&gt;x", "<b>x"},
		toldStep{"show", impl.OK, "<b>x</b>", "<b>x"},
		toldStep{"checks", impl.OK, "2", "<b>x"},
		toldStep{"wink", impl.ErrText, "", ""},
	)
	large := madeSession(impl.Policy{}, strings.Repeat("\"", 41), 60)
	wantToldSteps(t, large,
		toldStep{"show", impl.OK, "! 6", strings.Repeat("\"", 41)},
		toldStep{"text", impl.OK, strings.Repeat("&quot;", 41), strings.Repeat("\"", 41)},
		toldStep{"checks", impl.OK, "1", strings.Repeat("\"", 41)},
		toldStep{"delete 0 40", impl.OK, "0,0,6", "\""},
	)
	wantToldSteps(t, madeSession(impl.Policy{}, "", 1), toldStep{"show", impl.OK, "", ""}, toldStep{"text", impl.OK, "", ""}, toldStep{"checks", impl.OK, "1", ""}, toldStep{"compact", impl.OK, "none", ""}, toldStep{"insert 0 ", impl.OK, "none", ""})
	wantToldSteps(t, madeSession(impl.Policy{}, strings.Repeat("&", 40), 1), toldStep{"checks", impl.OK, "41", strings.Repeat("&", 40)}, toldStep{"show", impl.OK, strings.Repeat("&amp;", 40), strings.Repeat("&", 40)})
}

// toldScript is a script with all that it has to say, and the text that it leaves.
type toldScript struct {
	script string
	said   string
	text   string
}

func wantToldScripts(t *testing.T, s impl.Session, all ...toldScript) {
	t.Helper()
	for _, c := range all {
		got := wantScript(t, s, c.script)
		if got.Code != impl.OK || got.Said != c.said || string(got.Session.Memo.Data) != c.text {
			t.Errorf("RunScript by %q: got %d, %q, %s, want %q, %q", c.script, got.Code, got.Said, briefSession(got.Session), c.said, c.text)
		}
	}
}

// Scripts that are told: each line is of what those ahead of it have led to, and one with a code leaves that as it is.
func TestScriptsThatAreTold(t *testing.T) {
	wantToldScripts(t, typedSession(),
		toldScript{"insert 4 y\nshow\ntext\nchecks\n", "4,0,1\n<b>xy</b>\n&lt;b&gt;xy\n2\n", "<b>xy"},
		toldScript{"delete 3 1\ndelete 3 1\ninsert 3 z\nshow", "3,1,0\n! 3\n3,0,1\n<b>z</b>\n", "<b>z"},
		toldScript{"policy - - -\nshow\npolicy i,b - -\nshow\npolicy b,i - -\nshow", "0,8,1\nx\n! 1\nx\n0,1,8\n<b>x</b>\n", "<b>x"},
		toldScript{"wink\n show\nshow \n! 5\n", "! 5\n! 5\n! 5\n! 5\n", "<b>x"},
		toldScript{"insert 0 \"\ninsert 0 " + strings.Repeat("\"", 40) + "\nshow\ntext\ndelete 0 41\nshow", "0,0,6\n0,14,0\n! 6\n" + strings.Repeat("&quot;", 41) + "&lt;b&gt;x\n0,0,8\n<b>x</b>\n", "<b>x"},
		toldScript{"compact\ncompact \ncompact", "none\n! 5\nnone\n", "<b>x"},
		toldScript{"delete 0 4\nshow\ntext\nchecks", "0,8,0\n1\n", ""},
		toldScript{"insert 0 " + strings.Repeat("z", 237) + "\ninsert 0 " + strings.Repeat("z", 236) + "\nchecks", "! 6\n0,8,0\n61\n", strings.Repeat("z", 236) + "<b>x"},
	)
}

// The words of a line that are told: blanks alone are between them, and nothing else.
func TestWordsThatAreTold(t *testing.T) {
	wantWords(t, "")
	for n := range 4 {
		wantWords(t, strings.Repeat(" ", n))
		blanks := strings.Repeat(" ", n)
		wantWords(t, blanks+"one", "one")
		wantWords(t, "one"+blanks, "one")
		wantWords(t, blanks+"one "+blanks+"two"+blanks, "one", "two")
	}
	wantWords(t, " a  b ", "a", "b")
	wantWords(t, "b a b b", "b", "a", "b", "b")
	wantWords(t, "a\nb", "a\nb")
	wantWords(t, "\n", "\n")
	wantWords(t, " \n \n\n ", "\n", "\n\n")
	wantWords(t, "a\tb\rc\vd\fe", "a\tb\rc\vd\fe")
	wantWords(t, "\x00 \x01\xff \x80", "\x00", "\x01\xff", "\x80")
	wantWords(t, "é\u00a0\u2003\u3000\u0085 ü", "é\u00a0\u2003\u3000\u0085", "ü")
	wantWords(t, "insert 0 <b>, - &#32;x", "insert", "0", "<b>,", "-", "&#32;x")
	wantWords(t, "\xe3\x80 \x80", "\xe3\x80", "\x80")
	for b := range 256 {
		one := string([]byte{byte(b)})
		if b == 32 {
			wantWords(t, one)
			wantWords(t, "a"+one+"b", "a", "b")
			continue
		}
		wantWords(t, one, one)
		wantWords(t, "a"+one+"b "+one, "a"+one+"b", one)
	}
	many := strings.Repeat("ab ", 100000)
	if got := impl.WordsOf(many).Words; len(got) != 100000 || got[99999] != "ab" {
		t.Errorf("WordsOf of 100000 words: got %d", len(got))
	}
	wantWords(t, strings.Repeat("x", 1000000), strings.Repeat("x", 1000000))
}

// textsOfLines look like anything that stands behind the one blank.
func textsOfLines() []string {
	texts := []string{
		"", " ", "  ", " x", "x ", " x ", "a b", "a  b", "   a   b   ", "0", " 0", "0 1", "-", "- - -", ",", "!", "! 5", "none", "\t", "\r", "\x00", "\xff", "é", "\"", "<b>", "<b title=\"x y\">", "&#10;", "&#32;", "&lt;",
	}
	for _, line := range slices.Concat(plainLines(), changeLines(4), codeLines(4)) {
		if len(line) < 100 {
			texts = append(texts, line, " "+line, line+" ")
		}
	}
	return texts
}

// All behind the blank is the text, however it looks.
func TestTextsOfLines(t *testing.T) {
	for _, text := range textsOfLines() {
		for _, at := range []int{0, 3, 4} {
			whole := "<b>x"[:at] + text + "<b>x"[at:]
			got := wantLineCode(t, typedSession(), fmt.Sprintf("insert %d %s", at, text), impl.OK)
			if string(got.Session.Memo.Data) != whole {
				t.Errorf("insert %d of %q: got %q", at, text, got.Session.Memo.Data)
			}
			got = wantLineCode(t, typedSession(), fmt.Sprintf("replace %d %d %s", at, 4-at, text), impl.OK)
			if string(got.Session.Memo.Data) != "<b>x"[:at]+text {
				t.Errorf("replace %d of %q: got %q", at, text, got.Session.Memo.Data)
			}
			// In a script it is the same text, since no line feed is in it.
			run := wantScript(t, typedSession(), fmt.Sprintf("insert %d %s\ntext\n", at, text))
			if !strings.HasSuffix(run.Said, escaped(whole)+"\n") || string(run.Session.Memo.Data) != whole {
				t.Errorf("insert %d of %q in a script: got %q, %q", at, text, run.Said, run.Session.Memo.Data)
			}
		}
	}
}

// A text has MaxText bytes at most, by itself and with what is there.
func TestSizesOfTextsOfLines(t *testing.T) {
	empty := madeSession(impl.Policy{}, "", 9)
	for size, code := range map[int]int64{1: impl.OK, 239: impl.OK, 240: impl.OK, 241: impl.ErrLarge, 1000: impl.ErrLarge} {
		text := strings.Repeat("y", size)
		wantLineCode(t, empty, "insert 0 "+text, code)
		wantLineCode(t, empty, "replace 0 0 "+text, code)
		wantLineCode(t, empty, "insert 0 "+strings.Repeat(" ", size), code)
		wantLineCode(t, typedSession(), "replace 0 4 "+text, code)
	}
	wantLineCode(t, empty, "insert 1 "+strings.Repeat("y", 241), impl.ErrLarge)
	wantLineCode(t, empty, "insert 1 "+strings.Repeat("y", 240), impl.ErrRange)
	wantLineCode(t, typedSession(), "insert 4 "+strings.Repeat("y", 236), impl.OK)
	wantLineCode(t, typedSession(), "insert 4 "+strings.Repeat("y", 237), impl.ErrLarge)
	// A script of MaxScript bytes has room for such a text, and for one that is too large.
	wantToldScripts(t, empty, toldScript{"insert 0 " + strings.Repeat("y", 240) + "\ninsert 0 " + strings.Repeat("y", 241) + "\n", "0,0,240\n! 6\n", strings.Repeat("y", 240)})
}

// linesWithBlanks are lines of each kind, and whether a text stands behind the last blank of each.
func linesWithBlanks() map[string]bool {
	return map[string]bool{
		"insert 1 ab": true, "insert 1 ": true, "replace 1 2 ab": true, "replace 1 2 ": true,
		"delete 1 2": false, "compact": false, "policy b i http": false, "policy - - -": false, "policy b,i - -": false, "text": false, "show": false, "checks": false,
	}
}

// One blank stands between words: of two, of none, of one ahead of the line or behind it no line comes, but where it is in a text.
func TestBlanksOfLines(t *testing.T) {
	s := typedSession()
	for line, hasText := range linesWithBlanks() {
		wantLineCode(t, s, line, impl.OK)
		wantLineCode(t, s, " "+line, impl.ErrText)
		wantLineCode(t, s, "  "+line, impl.ErrText)
		behind := int64(impl.ErrText)
		if hasText {
			behind = impl.OK
		}
		wantLineCode(t, s, line+" ", behind)
		wantLineCode(t, s, line+"  ", behind)
		last := strings.LastIndex(line, " ")
		for at := range len(line) {
			if line[at] != ' ' {
				continue
			}
			wantLineCode(t, s, line[:at]+line[at+1:], impl.ErrText)
			for _, other := range []string{"\t", "\n", ",", "-", "\u00a0", "\x00"} {
				wantLineCode(t, s, line[:at]+other+line[at+1:], impl.ErrText)
			}
			code := int64(impl.ErrText)
			if hasText && at == last {
				code = impl.OK
			}
			wantLineCode(t, s, line[:at]+" "+line[at:], code)
			wantLineCode(t, s, line[:at]+"  "+line[at:], code)
		}
	}
}

// Lines that have too few words, or too many, and words that are none.
func TestLinesThatAreNone(t *testing.T) {
	s := typedSession()
	for _, line := range []string{
		" ", "  ", "wink", "x", "-", "0", ",", "!", "none", "insert", "insert ", "insert 0", "insert x", "insert x 0", "insert 0,1 x", "insert,0 x", "insert - x",
		"delete", "delete ", "delete 0", "delete 0 ", "delete 0 x", "delete x 0", "delete 0 1 2", "delete 0 1 x", "delete 0 1 ", "delete  ", "delete 0,1", "delete 0-1", "delete -",
		"replace", "replace ", "replace 0", "replace 0 ", "replace 0 1", "replace 0 x y", "replace x 0 y", "replace 0  y", "replace  0 y",
		"policy", "policy ", "policy -", "policy - ", "policy - -", "policy - - ", "policy - - - ", "policy - - - -", "policy - - - x", "policy b i http x", "policy  - -", "policy -  -", "policy---",
		"compact x", "compact 0", "compact -", "text x", "text 0", "show 0", "show text", "checks 0", "checks checks", "texttext", "textshow", "show,text",
		"Insert 0 x", "INSERT 0 x", "inser 0 x", "inserts 0 x", "nsert 0 x", "insertx", "Delete 0 1", "deletes 0 1", "rePlace 0 1 x", "Policy - - -", "policies - - -", "Compact", "compac", "compacts", "Text", "tex", "texts", "Show", "sho", "shows", "check", "Checks", "checkss",
		"\ttext", "text\t", "text\r", "text\x00", "\x00", "\xff", "\u00a0text", "text\u00a0", "ｔext", "\ufefftext", "insert\t0\tx", "insert 0\tx", "delete 0\t1",
	} {
		wantLineCode(t, s, line, impl.ErrText)
		wantToldScripts(t, s, toldScript{line, "! 5\n", "<b>x"}, toldScript{line + "\n", "! 5\n", "<b>x"}, toldScript{"insert 4 y\n" + line + "\ndelete 4 1\n", "4,0,1\n! 5\n4,1,0\n", "<b>x"})
	}
}

// numbersThatAreNone have a 0 ahead, too many digits, none, or what is no digit.
func numbersThatAreNone() []string {
	return []string{
		"", "00", "01", "000", "001", "0000", "0001", "00000", "09", "010", "0999", "10000", "12345", "99999", "100000", "9223372036854775807", "9223372036854775808", "18446744073709551616", strings.Repeat("1", 1000),
		"-", "-0", "-1", "+", "+0", "+1", "--1", "1-", "1+", "a", "0a", "a0", "1a", "1a1", "x", "0x1", "0b1", "0o1", "1e1", "1.0", "1.", ".1", "1,", ",1", "1,0", "1_0", "_1", "1'0", "1\t", "\t1", "1\x00", "\x001", "1\r", "٣", "１", "²", "1\xff", "\xff", "n", "N",
	}
}

// Numbers have 1 to 4 digits, and no 0 ahead, wherever a line has one; the greatest ones reach behind any text.
func TestNumbersOfLines(t *testing.T) {
	s := typedSession()
	for n := range 10200 {
		number := fmt.Sprint(n)
		at, size := int64(impl.OK), int64(impl.OK)
		if n > 4 {
			at, size = impl.ErrRange, impl.ErrRange
		}
		if n > 9999 {
			at, size = impl.ErrText, impl.ErrText
		}
		for line, code := range map[string]int64{"insert " + number + " ": at, "delete " + number + " 0": at, "delete 0 " + number: size, "replace " + number + " 0 ": at, "replace 0 " + number + " x": size} {
			if got := impl.StepScript(s, line).Code; got != code {
				t.Errorf("%q: got %d, want %d", line, got, code)
			}
		}
		// A 0 ahead of digits makes none of them.
		if got := impl.StepScript(s, "delete 0"+number+" 0").Code; got != impl.ErrText {
			t.Errorf("delete 0%s: got %d", number, got)
		}
	}
	for _, number := range numbersThatAreNone() {
		for _, form := range []string{"insert % x", "insert % ", "delete % 0", "delete 0 %", "delete % %", "replace % 0 x", "replace 0 % x", "replace % % "} {
			wantLineCode(t, s, strings.ReplaceAll(form, "%", number), impl.ErrText)
		}
	}
	wantLineCode(t, s, "insert 0 0", impl.OK)
	wantLineCode(t, s, "delete 9999 9999", impl.ErrRange)
	wantLineCode(t, s, "replace 9999 9999 x", impl.ErrRange)
	wantLineCode(t, s, "delete 4 0", impl.OK)
	wantLineCode(t, s, "delete 3 2", impl.ErrRange)
	wantLineCode(t, s, "replace 4 1 ", impl.ErrRange)
}

// wantPolicyLine holds a line that tells a policy against the policy that it has to lead to.
func wantPolicyLine(t *testing.T, line string, p impl.Policy) {
	t.Helper()
	s := madeSession(policyOf("b", "title", "http"), "<b title=\"x\"><i>y", 4)
	got := wantLineCode(t, s, line, impl.OK)
	want := impl.DoChange(s, obeying(p))
	wantScriptResult(t, line, got, impl.ScriptResult{Code: want.Code, Session: want.Session, Said: patchTextOf(want.Patches).Text})
	if told := got.Session.Policy; !slices.Equal(told.Tags, p.Tags) || !slices.Equal(told.Attrs, p.Attrs) || !slices.Equal(told.Schemes, p.Schemes) {
		t.Errorf("%q: got %s, want %s", line, briefPolicy(told), briefPolicy(p))
	}
}

// Lists of none, of one word, and of several, each in each place.
func TestPoliciesOfLines(t *testing.T) {
	ten := strings.Join(rising(10), ",")
	for text, words := range map[string][]string{"-": nil, "b": {"b"}, "b,i": {"b", "i"}, "a,b,br,i,img,p": {"a", "b", "br", "i", "img", "p"}, "script,style": {"script", "style"}, "abcdefgh": {"abcdefgh"}, ten: rising(10)} {
		wantPolicyLine(t, "policy "+text+" - -", impl.Policy{Tags: words})
		wantPolicyLine(t, "policy - "+text+" -", impl.Policy{Attrs: words})
		wantPolicyLine(t, "policy - - "+text, impl.Policy{Schemes: words})
		wantPolicyLine(t, "policy "+text+" title "+text, impl.Policy{Tags: words, Attrs: []string{"title"}, Schemes: words})
	}
	wantPolicyLine(t, "policy a,b href,title http,https", policyOf("a b", "href title", "http https"))
	wantPolicyLine(t, "policy - - -", impl.Policy{})
}

// Words that are none: each is an ErrText, wherever it stands.
func TestWordsOfPoliciesThatAreNone(t *testing.T) {
	s := typedSession()
	for _, text := range []string{"", ",", ",,", "b,", ",b", "b,,i", "b,i,", ",b,i", "-,", ",-", "-,-", "-,b", "b,-", "b,-,i", "--", "-b", "b-", "B", "b,I", "b1", "1", "0", "abcdefghi", "b,abcdefghi", "\"b\"", "b;i", "b.i", "<b>", "é", "\xff", "\t", "b\t", "b,\ti", "b\n", "\n"} {
		for _, form := range []string{"policy % - -", "policy - % -", "policy - - %", "policy % % %", "policy b % http", "policy b title %"} {
			wantLineCode(t, s, strings.ReplaceAll(form, "%", text), impl.ErrText)
		}
	}
	// That a line has not the form is told ahead of any fault of the words that it has.
	many := strings.Join(rising(11), ",")
	for _, line := range []string{"policy i,b, - -", "policy i,b - ,", "policy i,b  -", "policy i,b - - ", "policy i,b - b,,i", "policy " + many + ", - -", "policy " + many + " - ,b", "policy " + many + " - b,", "policy " + many + " - - -", "policy " + many + " -", "policy i,b - a b"} {
		wantLineCode(t, s, line, impl.ErrText)
	}
}

// Words that the policy's fault refuses, told by its code: too many ahead of all, then of Tags, of Attrs, of Schemes.
func TestPoliciesOfLinesWithAFault(t *testing.T) {
	s := typedSession()
	many := strings.Join(rising(11), ",")
	for line, code := range map[string]int64{
		"policy b,b - -": impl.ErrForm, "policy i,b - -": impl.ErrForm, "policy - title,href -": impl.ErrForm, "policy - - http,http": impl.ErrForm, "policy ab,a - -": impl.ErrForm,
		"policy B - -": impl.ErrText, "policy - - b,-": impl.ErrText, "policy B,a,a - -": impl.ErrText, "policy b,a,B - -": impl.ErrForm, "policy b,a,- - -": impl.ErrForm, "policy b,a - B": impl.ErrForm, "policy B - b,a": impl.ErrText, "policy - b,a B": impl.ErrForm, "policy - - b,a,B": impl.ErrForm,
		"policy " + many + " - -": impl.ErrMany, "policy - " + many + " -": impl.ErrMany, "policy - - " + many: impl.ErrMany, "policy b,a B " + many: impl.ErrMany, "policy B - " + many: impl.ErrMany, "policy " + strings.Repeat("b,", 10) + "b - -": impl.ErrMany, "policy " + strings.Repeat("b,", 9) + "b - -": impl.ErrForm, "policy " + strings.Repeat("B,", 9) + "B - -": impl.ErrText,
	} {
		wantLineCode(t, s, line, code)
		wantToldScripts(t, s, toldScript{line + "\nshow", fmt.Sprintf("! %d\n<b>x</b>\n", code), "<b>x"})
	}
}

// A byte 10 is in no line, wherever it would stand.
func TestLineFeedsInALine(t *testing.T) {
	s := typedSession()
	for _, line := range slices.Concat(plainLines(), changeLines(4), []string{"insert 0 ab", "replace 1 1 ab"}) {
		for at := range len(line) + 1 {
			wantLineCode(t, s, line[:at]+"\n"+line[at:], impl.ErrText)
		}
		wantLineCode(t, s, line+"\n\n", impl.ErrText)
		wantLineCode(t, s, line+"\n"+line, impl.ErrText)
		wantLineCode(t, s, line+"\r\n", impl.ErrText)
	}
	// That is told ahead of the code of DoChange.
	for _, line := range codeLines(4) {
		wantLineCode(t, s, line+"\n", impl.ErrText)
		wantLineCode(t, s, "\n"+line, impl.ErrText)
	}
}

// A byte 10 within a text is told, and shown, as a reference, so that what is said is one line.
func TestLineFeedsThatAreSaid(t *testing.T) {
	b := policyOf("b", "title", "")
	for text, told := range map[string][2]string{
		"\n": {"&#10;", "&#10;"}, "a\nb": {"a&#10;b", "a&#10;b"}, "\n\n": {"&#10;&#10;", "&#10;&#10;"}, "<b>\n": {"&lt;b&gt;&#10;", "<b>&#10;</b>"}, "<b\n>": {"&lt;b&#10;&gt;", "&lt;b&#10;&gt;"}, "<b title=\"\n\">": {"&lt;b title=&quot;&#10;&quot;&gt;", "<b></b>"},
		"&#10;": {"&amp;#10;", "&#10;"}, "&amp;#10;": {"&amp;amp;#10;", "&amp;#10;"}, "\r\n": {"\r&#10;", "\r&#10;"}, "\r": {"\r", "\r"}, "<!-- \n -->x": {"&lt;!-- &#10; --&gt;x", "x"},
	} {
		s := impl.OpenSession(b, []byte(text), 3).Session
		if got := wantLineCode(t, s, "text", impl.OK); got.Said != told[0] {
			t.Errorf("text of %q: got %q, want %q", text, got.Said, told[0])
		}
		if got := wantLineCode(t, s, "show", impl.OK); got.Said != told[1] {
			t.Errorf("show of %q: got %q, want %q", text, got.Said, told[1])
		}
		wantToldScripts(t, s, toldScript{"text\nshow", told[0] + "\n" + told[1] + "\n", text})
	}
	// What has most bytes of all that may be said.
	full := madeSession(impl.Policy{}, strings.Repeat("\n", 240), 1)
	for _, line := range []string{"text", "show"} {
		if got := wantLineCode(t, full, line, impl.OK); got.Said != strings.Repeat("&#10;", 240) {
			t.Errorf("%s of 240 line feeds: got %q", line, got.Said)
		}
	}
	quoted := madeSession(impl.Policy{}, strings.Repeat("\"", 240), 1)
	if got := wantLineCode(t, quoted, "text", impl.OK); got.Said != strings.Repeat("&quot;", 240) {
		t.Errorf("text of 240 quotes: got %q", got.Said)
	}
	// A line feed that is shown is cut, and counted, as one byte.
	wantToldScripts(t, madeSession(b, "a\nb", 3), toldScript{"delete 1 1\nshow", "1,1,0\nab\n", "ab"}, toldScript{"replace 0 3 x", "0,3,1\n", "x"}, toldScript{"insert 2 &#10;\nshow\ntext", "2,0,1\na&#10;&#10;b\na&#10;&amp;#10;b\n", "a\n&#10;b"})
}

// Line feeds of a script: an empty line does nothing and says nothing, and behind the last line feed there is a line where that is not empty alone.
func TestLineFeedsOfAScript(t *testing.T) {
	wantToldScripts(t, typedSession(),
		toldScript{"", "", "<b>x"}, toldScript{"\n", "", "<b>x"}, toldScript{"\n\n\n", "", "<b>x"}, toldScript{strings.Repeat("\n", 20), "", "<b>x"},
		toldScript{"show", "<b>x</b>\n", "<b>x"}, toldScript{"show\n", "<b>x</b>\n", "<b>x"}, toldScript{"\nshow", "<b>x</b>\n", "<b>x"}, toldScript{"show\n\n", "<b>x</b>\n", "<b>x"}, toldScript{"\n\nshow\n\nchecks\n\n\n", "<b>x</b>\n2\n", "<b>x"},
		toldScript{"insert 4 \nshow", "none\n<b>x</b>\n", "<b>x"}, toldScript{"insert 4 y\n", "4,0,1\n", "<b>xy"}, toldScript{"insert 4 y\n\n", "4,0,1\n", "<b>xy"}, toldScript{"insert 4\n y", "! 5\n! 5\n", "<b>x"}, toldScript{"insert 4 y\nz", "4,0,1\n! 5\n", "<b>xy"}, toldScript{"replace 0 4 \n", "0,8,0\n", ""},
		toldScript{" \n", "! 5\n", "<b>x"}, toldScript{"\n ", "! 5\n", "<b>x"}, toldScript{"show\r\n", "! 5\n", "<b>x"}, toldScript{"\r\n", "! 5\n", "<b>x"}, toldScript{"show\r", "! 5\n", "<b>x"}, toldScript{"insert 4 y\r\ntext", "4,0,2\n&lt;b&gt;xy\r\n", "<b>xy\r"},
	)
	empty := madeSession(openPolicy(), "", 7)
	wantToldScripts(t, empty, toldScript{"show\ntext\n", "", ""}, toldScript{"show\nchecks\ntext", "1\n", ""}, toldScript{"insert 0 <u>\nshow\ntext", "none\n&lt;u&gt;\n", "<u>"})
}

// The texts of patches that are told, among them some that put nothing, cut nothing, and do nothing.
func TestPatchTextsThatAreTold(t *testing.T) {
	for _, none := range nothings[impl.Patch]() {
		wantPatchText(t, none, impl.OK, "none")
	}
	wantPatchText(t, patches(patch(0, 0, "")), impl.OK, "0,0,0")
	wantPatchText(t, patches(patch(0, 0, "x")), impl.OK, "0,0,1")
	wantPatchText(t, patches(patch(12, 345, "")), impl.OK, "12,345,0")
	wantPatchText(t, patches(patch(2000, 0, strings.Repeat("x", 240))), impl.OK, "2000,0,240")
	wantPatchText(t, patches(patch(0, 2000, "1,2;3")), impl.OK, "0,2000,5")
	wantPatchText(t, patches(patch(7, 0, "none"), patch(7, 3, ""), patch(10, 0, "é\n")), impl.OK, "7,0,4;7,3,0;10,0,3")
	wantPatchText(t, patches(patch(1, 1, "a"), patch(2, 1, "b")), impl.OK, "1,1,1;2,1,1")
	wantPatchText(t, manyPatches(20, "ab"), impl.OK, strings.Repeat("0,0,2;", 19)+"0,0,2")
	wantPatchText(t, manyPatches(3, ""), impl.OK, "0,0,0;0,0,0;0,0,0")
}
