package tests

import (
	"fmt"
	"math"
	"slices"
	"strings"
	"testing"

	"loop.example/g00606/impl"
)

// The bounds are those that the document tells.
func TestBoundsOfScripts(t *testing.T) {
	if impl.MaxScript != 800 || impl.MaxLines != 20 {
		t.Errorf("a script has at most %d bytes, and %d lines", impl.MaxScript, impl.MaxLines)
	}
}

// faultySessions have a fault of each kind, and of several kinds at once.
func faultySessions() []impl.Session {
	right := typedSession()
	policies, tables, memos := partsWithFaults(right)
	faulty := []impl.Session{{}, {Policy: right.Policy, Table: right.Table, Memo: right.Memo}, {Policy: right.Policy, Table: right.Table, Memo: right.Memo, Out: []byte("<b>x"), Status: impl.OK}, withTable(right, oneTable("<b>y"))}
	for _, p := range policies {
		faulty = append(faulty, impl.Session{Policy: p, Table: right.Table, Memo: right.Memo}, impl.Session{Policy: p, Out: right.Out})
	}
	for _, x := range tables {
		faulty = append(faulty, impl.Session{Policy: right.Policy, Table: x, Memo: right.Memo, Out: []byte("y")}, impl.Session{Table: x, Status: 1})
	}
	for _, m := range memos {
		faulty = append(faulty, impl.Session{Policy: right.Policy, Table: right.Table, Memo: m, Out: []byte("y")})
	}
	return faulty
}

// The fault of the session is asked ahead of all that a line, or a script, may have.
func TestSessionsWithAFaultHearNoScript(t *testing.T) {
	scripts := []string{"", "\n", "show\n", "wink", strings.Repeat("\n", 21), strings.Repeat("x", 801), strings.Repeat("show\n", 20)}
	count := map[int64]int{}
	for _, s := range faultySessions() {
		code := sessionFaultOf(s)
		count[code]++
		for _, line := range slices.Concat(plainLines(), changeLines(4), codeLines(4), []string{"\n", "show\n", strings.Repeat("x", 801)}) {
			wantScriptResult(t, fmt.Sprintf("StepScript of %s by %q", briefSession(s), line), impl.StepScript(s, line), impl.ScriptResult{Code: code})
		}
		for _, text := range scripts {
			wantScriptResult(t, fmt.Sprintf("RunScript of %s by %q", briefSession(s), text), impl.RunScript(s, text), impl.ScriptResult{Code: code})
		}
	}
	if count[impl.OK] > 0 || count[impl.ErrText] == 0 || count[impl.ErrMany] == 0 || count[impl.ErrRange] == 0 || count[impl.ErrForm] == 0 || count[impl.ErrState] == 0 {
		t.Errorf("the faults are %v", count)
	}
}

// A session that differs from one without a fault in one thing: its fault, or none, is told by a line and by a script.
func TestTurnedSessionsHearScripts(t *testing.T) {
	for _, s := range sessionsToTurn()[:3] {
		for _, turned := range sessionTurns(s) {
			code := sessionFaultOf(turned.session)
			if got := impl.StepScript(turned.session, "wink"); got.Code != code && (code != impl.OK || got.Code != impl.ErrText) {
				t.Errorf("%s, %s: got %d of a line, want %d", turned.what, briefSession(turned.session), got.Code, code)
			}
			if got := impl.RunScript(turned.session, "wink"); got.Code != code {
				t.Errorf("%s, %s: got %d of a script, want %d", turned.what, briefSession(turned.session), got.Code, code)
			}
		}
	}
}

// That a line is none is asked ahead of the code of its change, and that comes as DoChange tells it: its form, its size, its place, its pieces.
func TestCodesOfLines(t *testing.T) {
	s, full := typedSession(), crowded(40)
	large := strings.Repeat("y", 241)
	for line, code := range map[string]int64{
		"insert 9999 x": impl.ErrRange, "insert 09999 x": impl.ErrText, "insert 10000 x": impl.ErrText, "insert 9999 " + large: impl.ErrLarge, "insert 9999 " + large[:240]: impl.ErrRange, "insert 0 " + large[:240]: impl.ErrLarge, "insert 10000 " + large: impl.ErrText,
		"delete 9999 0": impl.ErrRange, "delete 0 9999": impl.ErrRange, "delete 9999 0 ": impl.ErrText, "replace 0 9999 x": impl.ErrRange, "replace 0 5 " + large: impl.ErrLarge, "replace 0 5 " + large[:240]: impl.ErrRange, "replace 0 3 " + large[:240]: impl.ErrLarge, "replace 0 4 " + large[:240]: impl.OK,
		"policy b,a - -": impl.ErrForm, "policy b,a -": impl.ErrText, "policy B - -": impl.ErrText,
	} {
		wantLineCode(t, s, line, code)
	}
	for line, code := range map[string]int64{"insert 1 y": impl.ErrMany, "delete 1 1": impl.ErrMany, "replace 1 1 y": impl.ErrMany, "insert 1 ": impl.OK, "delete 0 1": impl.OK, "compact": impl.OK, "show": impl.OK, "insert 44 y": impl.ErrRange, "insert 1 " + large[:230]: impl.ErrLarge, "insert 1": impl.ErrText} {
		wantLineCode(t, full, line, code)
	}
	wantToldScripts(t, full, toldScript{"insert 1 y\ncompact\ninsert 1 y\ncompact x", "! 2\nnone\n1,0,1\n! 5\n", string(textOf(full.Table)[:1]) + "y" + string(textOf(full.Table)[1:])})
}

// A script of MaxScript bytes, and of one more, whatever they are.
func TestSizesOfScripts(t *testing.T) {
	s := typedSession()
	for _, unit := range []string{"x", " ", "\x00", "\xff", "é", "show ", "show\n"} {
		for size, code := range map[int]int64{0: impl.OK, 1: impl.OK, 799: impl.OK, 800: impl.OK, 801: impl.ErrMany, 802: impl.ErrMany, 5000: impl.ErrMany} {
			text := strings.Repeat(unit, size/len(unit)+1)[:size]
			if unit == "show\n" {
				text = strings.Repeat("show\n", min(size/5, 19)) + strings.Repeat("x", size-min(size/5, 19)*5)
			}
			if got := wantScript(t, s, text); got.Code != code {
				t.Errorf("a script of %d bytes %q: got %d, want %d", size, unit, got.Code, code)
			}
		}
	}
	// The bytes are counted with their line feeds.
	for more, code := range map[int]int64{0: impl.OK, 1: impl.ErrMany} {
		text := strings.Repeat("insert 4 "+strings.Repeat("y", 240)+"\n", 3) + strings.Repeat("z", 49) + strings.Repeat("\n", 1+more)
		if got := wantScript(t, s, text); len(text) != 800+more || got.Code != code {
			t.Errorf("a script of %d bytes: got %d, want %d", len(text), got.Code, code)
		}
	}
}

// A script of MaxLines lines, and of one more, with a line feed behind the last one and without it; empty lines are lines.
func TestNumbersOfLinesOfAScript(t *testing.T) {
	s := typedSession()
	for _, line := range []string{"", "show", "checks", "wink", "insert 0 x", " "} {
		for n, code := range map[int]int64{0: impl.OK, 1: impl.OK, 19: impl.OK, 20: impl.OK, 21: impl.ErrMany, 22: impl.ErrMany, 50: impl.ErrMany} {
			ended := strings.Repeat(line+"\n", n)
			if got := wantScript(t, s, ended); got.Code != code {
				t.Errorf("%d lines %q, each ended: got %d, want %d", n, line, got.Code, code)
			}
			open := code
			if n == 20 {
				open = impl.ErrMany
			}
			// What is behind the last line feed is one line more.
			if got := wantScript(t, s, ended+"x"); got.Code != open {
				t.Errorf("%d lines %q, and one that is not ended: got %d, want %d", n, line, got.Code, open)
			}
			if got := wantScript(t, s, "\n"+ended); got.Code != open {
				t.Errorf("an empty line, and %d %q: got %d, want %d", n, line, got.Code, open)
			}
			if line == "" || n == 0 {
				continue
			}
			if got := wantScript(t, s, strings.TrimSuffix(ended, "\n")); got.Code != code {
				t.Errorf("%d lines %q, the last one not ended: got %d, want %d", n, line, got.Code, code)
			}
		}
	}
	// Too many of them do nothing at all.
	wantScriptResult(t, "21 lines", impl.RunScript(s, strings.Repeat("insert 0 x\n", 21)), impl.ScriptResult{Code: impl.ErrMany})
	if got := impl.RunScript(s, strings.Repeat("insert 4 x\n", 20)); got.Code != impl.OK || string(got.Session.Memo.Data) != "<b>x"+strings.Repeat("x", 20) {
		t.Errorf("20 lines: got %d, %s", got.Code, briefSession(got.Session))
	}
}

// A line with a code says it, leaves the session as it was ahead of that line, and those behind it go on: the first one, one in the middle, the last one, and all of them.
func TestLinesWithACodeAmongOthers(t *testing.T) {
	s := typedSession()
	right := []string{"insert 4 y", "show", "replace 0 0 <i>", "", "policy b,i - -", "checks", "delete 3 3", "text", "compact"}
	whole := wantScript(t, s, strings.Join(right, "\n"))
	if whole.Said != "4,0,1\n<b>xy</b>\nnone\n1,7,14\n3\n3,9,2\n&lt;i&gt;xy\nnone\n" {
		t.Errorf("got %q", whole.Said)
	}
	heardOf := func(n int) string { return impl.RunScript(s, strings.Join(right[:n], "\n")+"\n").Said }
	for _, wrong := range codeLines(99) {
		if len(wrong) > 200 {
			continue
		}
		code := impl.StepScript(s, wrong).Code
		for place := range len(right) + 1 {
			got := wantScript(t, s, strings.Join(slices.Insert(slices.Clone(right), place, wrong), "\n"))
			want := heardOf(place) + fmt.Sprintf("! %d\n", code) + whole.Said[len(heardOf(place)):]
			wantScriptResult(t, fmt.Sprintf("%q at %d", wrong, place), got, impl.ScriptResult{Session: whole.Session, Said: want})
		}
		all := wantScript(t, s, strings.Repeat(wrong+"\n", 3))
		wantScriptResult(t, fmt.Sprintf("three times %q", wrong), all, impl.ScriptResult{Session: s, Said: strings.Repeat(fmt.Sprintf("! %d\n", code), 3)})
		if code == impl.OK {
			t.Errorf("%q has no code", wrong)
		}
	}
}

// PatchText asks the PatchesFault by 2000 bytes: each code, and which of two comes first.
func TestPatchTextsWithAFault(t *testing.T) {
	put := strings.Repeat("x", 241)
	many, away, back := manyPatches(21, "x"), patch(2001, 0, "x"), patches(patch(5, 1, ""), patch(5, 0, ""))
	for _, c := range []struct {
		list []impl.Patch
		code int64
	}{
		{many, impl.ErrMany}, {manyPatches(21, put), impl.ErrMany}, {patches(patch(0, 0, put)), impl.ErrMany}, {patches(patch(-1, -1, put)), impl.ErrMany}, {patches(away, patch(0, 0, put)), impl.ErrRange}, {append(slices.Clone(back), patch(0, 0, put)), impl.ErrForm}, {append(slices.Repeat(back, 10), back[0]), impl.ErrMany},
		{patches(away), impl.ErrRange}, {patches(patch(2000, 1, "")), impl.ErrRange}, {patches(patch(1999, 2, "")), impl.ErrRange}, {patches(patch(0, 2001, "")), impl.ErrRange}, {patches(patch(-1, 0, "")), impl.ErrRange}, {patches(patch(0, -1, "")), impl.ErrRange}, {patches(patch(-1, 1, "")), impl.ErrRange}, {patches(patch(math.MaxInt64, math.MaxInt64, "")), impl.ErrRange}, {patches(patch(math.MinInt64, math.MinInt64, "")), impl.ErrRange}, {patches(patch(1, math.MaxInt64, "")), impl.ErrRange}, {patches(patch(5, 0, ""), patch(-1, 0, "")), impl.ErrRange},
		{back, impl.ErrForm}, {patches(patch(1, 0, ""), patch(0, 0, "")), impl.ErrForm}, {patches(patch(0, 2, ""), patch(1, 1, "")), impl.ErrForm}, {patches(patch(0, 2000, ""), patch(0, 0, "x")), impl.ErrForm},
	} {
		wantPatchText(t, c.list, c.code, "")
	}
	wantPatchText(t, patches(patch(0, 2, ""), patch(2, 1998, put[:240]), patch(2000, 0, "")), impl.OK, "0,2,0;2,1998,240;2000,0,0")
	for _, n := range append(oddPlaces(2000), oddNumbers()...) {
		for _, list := range [][]impl.Patch{patches(patch(n, 0, "x")), patches(patch(0, n, "")), patches(patch(n, n, "")), patches(patch(1, 0, ""), patch(n, 1, ""))} {
			if got, want := impl.PatchText(list), patchTextOf(list); got != want {
				t.Errorf("PatchText of %s: got %+v, want %+v", briefPatches(list), got, want)
			}
		}
	}
}

// P1: nothing panics, and all ends, whatever a session is.
func TestHugeSessionsHearNoScript(t *testing.T) {
	for what, s := range hugeSessions() {
		code := impl.SessionFault(s)
		for _, line := range []string{"", "show", "insert 0 x", "wink", "\n"} {
			if got := impl.StepScript(s, line); got.Code != code || got.Said != "" || !impl.SameSessions(got.Session, impl.Session{}) {
				t.Errorf("StepScript of one with %s by %q: got %d, %q", what, line, got.Code, got.Said)
			}
		}
		if got := impl.RunScript(s, strings.Repeat("\n", 100000)); got.Code != code || got.Said != "" || !impl.SameSessions(got.Session, impl.Session{}) {
			t.Errorf("RunScript of one with %s: got %d, %q", what, got.Code, got.Said)
		}
	}
}

// P1: nothing panics, and all ends, whatever lines, scripts and patches are, and however large.
func TestHugeLines(t *testing.T) {
	s := typedSession()
	huge := strings.Repeat("x", 5000000)
	for line, code := range map[string]int64{
		huge: impl.ErrText, "insert 0 " + huge: impl.ErrLarge, "insert " + huge + " x": impl.ErrText, "insert " + strings.Repeat("0", 5000000) + " x": impl.ErrText, "delete 0 " + strings.Repeat("1", 5000000): impl.ErrText, "replace 0 0 " + huge: impl.ErrLarge,
		"policy " + huge + " - -": impl.ErrText, "policy " + strings.Repeat("x,", 1000000) + "x - -": impl.ErrMany, "policy - - " + strings.Repeat(",", 1000000): impl.ErrText, strings.Repeat(" ", 5000000): impl.ErrText, strings.Repeat("show ", 1000000): impl.ErrText, "show" + strings.Repeat("\n", 1000000): impl.ErrText, "insert 0 " + huge + "\n": impl.ErrText,
	} {
		wantScriptResult(t, fmt.Sprintf("%.20q", line), impl.StepScript(s, line), impl.ScriptResult{Code: code})
		wantScriptResult(t, fmt.Sprintf("%.20q", line), impl.RunScript(s, line), impl.ScriptResult{Code: impl.ErrMany})
	}
	if got := len(impl.WordsOf(strings.Repeat("show ", 1000000)).Words); got != 1000000 {
		t.Errorf("a million words: got %d", got)
	}
	if got := impl.PatchText(make([]impl.Patch, 1000000)); got != (impl.TextResult{Code: impl.ErrMany}) {
		t.Errorf("a million patches: got %+v", got)
	}
	if got := impl.PatchText([]impl.Patch{{Put: make([]byte, 5000000)}}); got != (impl.TextResult{Code: impl.ErrMany}) {
		t.Errorf("a huge Put: got %+v", got)
	}
}

// P1: nothing panics, and all ends, at lines and scripts of any bytes.
func TestLinesOfAnyBytes(t *testing.T) {
	parts := []string{" ", "\n", "insert", "delete", "replace", "policy", "compact", "text", "show", "checks", "0", "1", "12", "-", ",", "b", "b,i", "<b>", "\"", "&", "\x00", "\xff", "\t"}
	s := typedSession()
	count := map[int64]int{}
	for seed := range uint32(4000) {
		text := mixed(parts, int(seed%14), seed*2654435761)
		got, want := impl.StepScript(s, text), stepOf(s, text)
		wantScriptResult(t, fmt.Sprintf("%q", text), got, want)
		wantScriptResult(t, fmt.Sprintf("the script %q", text), impl.RunScript(s, text), scriptOf(s, text))
		count[got.Code]++
	}
	// With one blank between words more of them are lines.
	for seed := range uint32(4000) {
		words := strings.Fields(mixed([]string{"insert ", "delete ", "replace ", "policy ", "0 ", "1 ", "3 ", "9 ", "- ", "b ", "b,i ", "text\n", "x", ","}, int(seed%9), seed*40503))
		text := strings.Join(words, " ")
		got := impl.StepScript(s, text)
		wantScriptResult(t, fmt.Sprintf("%q", text), got, stepOf(s, text))
		count[got.Code]++
	}
	if count[impl.OK] < 50 || count[impl.ErrText] < 1000 || count[impl.ErrRange] < 3 {
		t.Errorf("the codes are %v: that says too little", count)
	}
}
