package tests

import (
	"bytes"
	"fmt"
	"regexp"
	"slices"
	"strconv"
	"strings"
	"testing"

	"loop.example/g00606/impl"
)

// The forms of the lines that tell a change: N is a number, W are words, T is a text.
var changeForms = map[int64]*regexp.Regexp{
	impl.DoInsert:  lineForm("insert N T"),
	impl.DoDelete:  lineForm("delete N N"),
	impl.DoReplace: lineForm("replace N N T"),
	impl.DoPolicy:  lineForm("policy W W W"),
	impl.DoCompact: lineForm("compact"),
}

func lineForm(form string) *regexp.Regexp {
	parts := strings.NewReplacer("N", `(0|[1-9][0-9]{0,3})`, "W", `(-|[^ ,]+(?:,[^ ,]+)*)`, "T", `(.*)`)
	return regexp.MustCompile(`(?s)\A` + parts.Replace(form) + `\z`)
}

// numberIn is one that a form has found.
func numberIn(text string) int64 {
	n, err := strconv.Atoi(text)
	if err != nil {
		panic(err)
	}
	return int64(n)
}

// listIn are the words that a form has found.
func listIn(text string) []string {
	if text == "-" {
		return nil
	}
	return strings.Split(text, ",")
}

// changeOfLine is the change that a line tells, if it tells one.
func changeOfLine(line string) (impl.Change, bool) {
	for kind, form := range changeForms {
		parts := form.FindStringSubmatch(line)
		if parts == nil || strings.Contains(line, "\n") {
			continue
		}
		switch kind {
		case impl.DoInsert:
			return inserting(numberIn(parts[1]), parts[2]), true
		case impl.DoDelete:
			return deleting(numberIn(parts[1]), numberIn(parts[2])), true
		case impl.DoReplace:
			return replacing(numberIn(parts[1]), numberIn(parts[2]), parts[3]), true
		case impl.DoPolicy:
			return obeying(impl.Policy{Tags: listIn(parts[1]), Attrs: listIn(parts[2]), Schemes: listIn(parts[3])}), true
		}
		return compacting(), true
	}
	return impl.Change{}, false
}

// lineOfChange is the line that tells a change, if one does.
func lineOfChange(c impl.Change) (string, bool) {
	line := "compact"
	words := func(list []string) string {
		if len(list) == 0 {
			return "-"
		}
		return strings.Join(list, ",")
	}
	switch c.Kind {
	case impl.DoInsert:
		line = fmt.Sprintf("insert %d %s", c.At, c.Put)
	case impl.DoDelete:
		line = fmt.Sprintf("delete %d %d", c.At, c.N)
	case impl.DoReplace:
		line = fmt.Sprintf("replace %d %d %s", c.At, c.N, c.Put)
	case impl.DoPolicy:
		line = fmt.Sprintf("policy %s %s %s", words(c.Policy.Tags), words(c.Policy.Attrs), words(c.Policy.Schemes))
	}
	told, found := changeOfLine(line)
	return line, found && briefChange(told) == briefChange(c)
}

// withoutFeeds is a text that is told on one line.
func withoutFeeds(text string) string {
	return strings.Join(strings.Split(text, "\n"), "&#10;")
}

// patchTextOf is what the document asks of PatchText.
func patchTextOf(list []impl.Patch) impl.TextResult {
	if code := patchesFaultOf(list, 2000); code != impl.OK {
		return impl.TextResult{Code: code}
	}
	text := ""
	for i, p := range list {
		if i > 0 {
			text += ";"
		}
		text += fmt.Sprintf("%d,%d,%d", p.At, p.Cut, len(p.Put))
	}
	if text == "" {
		text = "none"
	}
	return impl.TextResult{Text: text}
}

// saidOf is what the document asks to be said of a session by a line that turns nothing, if the line is one.
func saidOf(s impl.Session, line string) (string, bool) {
	switch line {
	case "":
		return "", true
	case "text":
		return withoutFeeds(escaped(string(textOf(s.Table)))), true
	case "show":
		if s.Status != impl.OK {
			return fmt.Sprintf("! %d", s.Status), true
		}
		return withoutFeeds(string(s.Out)), true
	case "checks":
		return strconv.Itoa(len(s.Memo.Data)/int(s.Memo.Step) + 1), true
	}
	return "", false
}

// steppedOf is what the document asks of a line in a session without a fault.
func steppedOf(s impl.Session, line string) impl.ScriptResult {
	if said, found := saidOf(s, line); found {
		return impl.ScriptResult{Session: s, Said: said}
	}
	c, found := changeOfLine(line)
	if !found {
		return impl.ScriptResult{Code: impl.ErrText}
	}
	done := changedOf(s, c)
	if done.Code != impl.OK {
		return impl.ScriptResult{Code: done.Code}
	}
	return impl.ScriptResult{Session: done.Session, Said: patchTextOf(done.Patches).Text}
}

// stepOf is what the document asks of StepScript.
func stepOf(s impl.Session, line string) impl.ScriptResult {
	if code := sessionFaultOf(s); code != impl.OK {
		return impl.ScriptResult{Code: code}
	}
	return steppedOf(s, line)
}

// scriptLines are what line feeds end, and what is behind the last one, if it is not empty.
func scriptLines(text string) []string {
	var lines []string
	from := 0
	for at := range len(text) {
		if text[at] == 10 {
			lines = append(lines, text[from:at])
			from = at + 1
		}
	}
	if from < len(text) {
		lines = append(lines, text[from:])
	}
	return lines
}

// heard is what a script says of a line, by what StepScript answers.
func heard(step impl.ScriptResult) string {
	if step.Code != impl.OK {
		return fmt.Sprintf("! %d\n", step.Code)
	}
	if step.Said != "" && !strings.HasSuffix(step.Said, "\n") {
		return step.Said + "\n"
	}
	return step.Said
}

// scriptOf is what the document asks of RunScript.
func scriptOf(s impl.Session, text string) impl.ScriptResult {
	if code := sessionFaultOf(s); code != impl.OK {
		return impl.ScriptResult{Code: code}
	}
	if len(text) > 800 || len(scriptLines(text)) > 20 {
		return impl.ScriptResult{Code: impl.ErrMany}
	}
	run := impl.ScriptResult{Session: s}
	for _, line := range scriptLines(text) {
		step := steppedOf(run.Session, line)
		if step.Code == impl.OK {
			run.Session = step.Session
		}
		run.Said += heard(step)
	}
	return run
}

func shownScript(r impl.ScriptResult) string {
	return fmt.Sprintf("code %d, said %q, session %s", r.Code, r.Said, shownSession(r.Session))
}

func wantScriptResult(t *testing.T, what string, got impl.ScriptResult, want impl.ScriptResult) {
	t.Helper()
	if shownScript(got) != shownScript(want) {
		t.Errorf("%s: got %.900s, want %.900s", what, shownScript(got), shownScript(want))
	}
}

// wantLine holds StepScript against the document, and asks P17 of what is said.
func wantLine(t *testing.T, s impl.Session, line string) impl.ScriptResult {
	t.Helper()
	what := fmt.Sprintf("StepScript of %s by %.300q", briefSession(s), line)
	got := impl.StepScript(s, line)
	wantScriptResult(t, what, got, stepOf(s, line))
	if c, found := changeOfLine(line); found {
		wantToldChange(t, what, got, impl.DoChange(s, c))
	} else if got.Code == impl.OK {
		wantSaidIsSo(t, what, s, line, got)
	}
	return got
}

// wantToldChange asks P17 of a line that tells a change: it comes to what DoChange does.
func wantToldChange(t *testing.T, what string, got impl.ScriptResult, done impl.SessionResult) {
	t.Helper()
	want := impl.ScriptResult{Code: done.Code, Session: done.Session}
	if done.Code == impl.OK {
		want.Said = impl.PatchText(done.Patches).Text
	}
	wantScriptResult(t, what+", by DoChange", got, want)
}

// wantSaidIsSo asks P17 of a line that turns nothing by what the program itself tells of the session.
func wantSaidIsSo(t *testing.T, what string, s impl.Session, line string, got impl.ScriptResult) {
	t.Helper()
	if !impl.SameSessions(got.Session, s) {
		t.Errorf("%s: the session was turned to %s", what, briefSession(got.Session))
	}
	if strings.Contains(got.Said, "\n") {
		t.Errorf("%s: %q has a line feed", what, got.Said)
	}
	so := false
	switch line {
	case "":
		so = got.Said == ""
	case "text":
		so = bytes.Equal(impl.DecodeText(got.Said).Bytes, impl.TextOf(s.Table).Bytes) && !strings.ContainsAny(got.Said, "<>\"")
	case "show":
		out := impl.SanitizeText(s.Policy, impl.TextOf(s.Table).Bytes)
		so = out.Code == impl.OK && strings.ReplaceAll(got.Said, "&#10;", "\n") == string(out.Bytes) || out.Code != impl.OK && got.Said == fmt.Sprint("! ", out.Code)
	case "checks":
		so = got.Said == fmt.Sprint(len(impl.NewMemo(s.Memo.Data, s.Memo.Step).Memo.Checks))
	}
	if !so {
		t.Errorf("%s: %q is not so", what, got.Said)
	}
}

// wantLineCode holds a line, with a code or without one, against the document; what is beside a code is zero.
func wantLineCode(t *testing.T, s impl.Session, line string, code int64) impl.ScriptResult {
	t.Helper()
	got := wantLine(t, s, line)
	if got.Code != code {
		t.Errorf("StepScript of %s by %.300q: got %d, want %d", briefSession(s), line, got.Code, code)
	}
	return got
}

// wantScript holds RunScript against the document, and asks P17 of it: line by line, and in two parts.
func wantScript(t *testing.T, s impl.Session, text string) impl.ScriptResult {
	t.Helper()
	what := fmt.Sprintf("RunScript of %s by %.900q", briefSession(s), text)
	got := impl.RunScript(s, text)
	wantScriptResult(t, what, got, scriptOf(s, text))
	if got.Code != impl.OK {
		return got
	}
	if code := impl.SessionFault(got.Session); code != impl.OK {
		t.Errorf("%s: what it leads to has the fault %d", what, code)
	}
	wantLineByLine(t, what, s, text, got)
	cuts := cutsOf(text)
	for _, at := range []int{0, len(cuts) / 2, len(cuts) - 1} {
		wantScriptInParts(t, what, s, []string{text[:cuts[at]], text[cuts[at]:]}, got)
	}
	return got
}

// cutsOf are the places behind line feeds, and the ends.
func cutsOf(text string) []int {
	cuts := []int{0}
	for at := range len(text) {
		if text[at] == 10 {
			cuts = append(cuts, at+1)
		}
	}
	return slices.Compact(append(cuts, len(text)))
}

// wantLineByLine holds a script against StepScript of each line.
func wantLineByLine(t *testing.T, what string, s impl.Session, text string, got impl.ScriptResult) {
	t.Helper()
	one := impl.ScriptResult{Session: s}
	for _, line := range scriptLines(text) {
		step := impl.StepScript(one.Session, line)
		if step.Code == impl.OK {
			one.Session = step.Session
		}
		one.Said += heard(step)
	}
	wantScriptResult(t, what+", line by line", got, one)
}

// wantScriptInParts holds a script against its parts, each of what the one ahead leads to.
func wantScriptInParts(t *testing.T, what string, s impl.Session, parts []string, got impl.ScriptResult) {
	t.Helper()
	all := impl.ScriptResult{Session: s}
	for _, part := range parts {
		run := impl.RunScript(all.Session, part)
		all = impl.ScriptResult{Code: max(all.Code, run.Code), Session: run.Session, Said: all.Said + run.Said}
	}
	wantScriptResult(t, fmt.Sprintf("%s, as %q", what, parts), got, all)
}

func wantWords(t *testing.T, line string, words ...string) {
	t.Helper()
	got := impl.WordsOf(line)
	if got.Code != impl.OK || !slices.Equal(got.Words, words) {
		t.Errorf("WordsOf of %.200q: got %d, %.200q, want %.200q", line, got.Code, got.Words, words)
	}
}

func wantPatchText(t *testing.T, list []impl.Patch, code int64, text string) {
	t.Helper()
	want := impl.TextResult{Code: code, Text: text}
	if got := impl.PatchText(list); got != want {
		t.Errorf("PatchText of %s: got %+v, want %+v", briefPatches(list), got, want)
	}
	if told := patchTextOf(list); told != want {
		t.Errorf("%s: the test's own text is %+v, not %+v", briefPatches(list), told, want)
	}
}

// feedSessions have line feeds in what is typed, and most of them in what is shown.
func feedSessions() []impl.Session {
	laid := madeSession(openPolicy(), "a\n<p>\n\nb&#10;</p>\n", 3)
	return []impl.Session{
		madeSession(impl.Policy{}, "\n", 1), madeSession(impl.Policy{}, "a\nb", 2), laid, withTable(laid, scatteredTable("a\n<p>\n\nb&#10;</p>\n", 2)),
		madeSession(policyOf("b", "title", ""), "<b title=\"\n\">&lt;\n", 5), madeSession(impl.Policy{}, strings.Repeat("\n", 240), 60), madeSession(impl.Policy{}, strings.Repeat("\"\n", 40), 7),
	}
}

// scriptSessions have no fault: those of all kinds, and those with line feeds.
func scriptSessions() []impl.Session {
	return append(sessionsOfAllKinds(), feedSessions()...)
}

// plainLines turn nothing.
func plainLines() []string {
	return []string{"", "text", "show", "checks"}
}

// changeLines tell changes of each kind, of a text of so many bytes.
func changeLines(size int64) []string {
	return []string{
		"insert 0 x", "insert 0 ", "insert 0  <b> ", fmt.Sprintf("insert %d <i>&y", size), "delete 0 0", fmt.Sprintf("delete 0 %d", size), fmt.Sprintf("delete %d 1", size/2), "replace 0 0 ", fmt.Sprintf("replace 0 %d a  b", min(size, 3)), fmt.Sprintf("replace 0 %d ", size),
		"compact", "policy - - -", "policy b - -", "policy b,i href,title http", "policy script,u onload js",
	}
}

// codeLines have a code, of a text of so many bytes: of their form, and of DoChange.
func codeLines(size int64) []string {
	return []string{
		" ", "wink", "insert", "insert 0", "insert 00 x", "delete 0 0 ", "replace 0 x", " text", "show ", "checks 1", "compact x", "policy - -", "policy a,, - -", "insert -1 x", "delete 10000 0",
		"insert 9999 x", fmt.Sprintf("delete 0 %d", size+1), fmt.Sprintf("replace %d 1 x", size), "insert 0 " + strings.Repeat("y", 241), "policy b,a - -", "policy - B -", "policy a,b,c,d,e,f,g,h,i,j,k - -",
	}
}

// someLine is one of any kind for a text of so many bytes, by chance.
func someLine(size int64, seed uint32) string {
	seed = seed*1664525 + 1013904223
	plain, wrong := plainLines(), codeLines(size)
	switch n := int(seed >> 16); n % 8 {
	case 0, 1:
		return plain[n/8%len(plain)]
	case 2:
		return wrong[n/8%len(wrong)]
	}
	line, found := lineOfChange(someChange(size, seed))
	if !found {
		return "delete 0 1"
	}
	return line
}

// someScript has so many lines, by chance, or fewer, where there would be more than 800 bytes; some have no line feed behind the last line.
func someScript(n int, size int, seed uint32) string {
	text := ""
	for i := range uint32(n) {
		line := someLine(int64(size), seed*977+i*131) + "\n"
		if len(text)+len(line) <= 800 {
			text += line
		}
	}
	if seed%3 == 0 {
		return strings.TrimSuffix(text, "\n")
	}
	return text
}
