package tests

import (
	"fmt"
	"slices"
	"strings"
	"testing"

	"loop.example/g00606/impl"
)

// The changes of each kind.

func inserting(at int64, put string) impl.Change {
	return impl.Change{Kind: impl.DoInsert, At: at, Put: []byte(put)}
}

func deleting(at int64, n int64) impl.Change {
	return impl.Change{Kind: impl.DoDelete, At: at, N: n}
}

func replacing(at int64, n int64, put string) impl.Change {
	return impl.Change{Kind: impl.DoReplace, At: at, N: n, Put: []byte(put)}
}

func obeying(p impl.Policy) impl.Change {
	return impl.Change{Kind: impl.DoPolicy, Policy: p}
}

func compacting() impl.Change {
	return impl.Change{Kind: impl.DoCompact}
}

// changes is a list of changes.
func changes(list ...impl.Change) []impl.Change {
	return list
}

// isEdit tells whether a change is one of the text.
func isEdit(c impl.Change) bool {
	return c.Kind == impl.DoInsert || c.Kind == impl.DoDelete || c.Kind == impl.DoReplace
}

func briefChange(c impl.Change) string {
	return fmt.Sprintf("[kind %d, at %d, n %d, %.60q put, %s]", c.Kind, c.At, c.N, c.Put, briefPolicy(c.Policy))
}

func briefChanges(list []impl.Change) string {
	var text strings.Builder
	for _, c := range list[:min(len(list), 21)] {
		text.WriteString(briefChange(c))
	}
	return fmt.Sprintf("%d changes %.600s", len(list), text.String())
}

// shownSession tells all of a session, nil and an empty list alike.
func shownSession(s impl.Session) string {
	return fmt.Sprintf("policy %q %q %q, table %q %q %v, memo %s, out %q, status %d", s.Policy.Tags, s.Policy.Attrs, s.Policy.Schemes, s.Table.Base, s.Table.More, s.Table.Pieces, shownMemo(s.Memo), s.Out, s.Status)
}

// briefSession is what one has to know of a session, but of one that may be very large.
func briefSession(s impl.Session) string {
	return fmt.Sprintf("%.250q by %d and %s, %d pieces, %.60q shown, status %d", s.Memo.Data, s.Memo.Step, briefPolicy(s.Policy), len(s.Table.Pieces), s.Out, s.Status)
}

// shownDone tells all that a change answers.
func shownDone(r impl.SessionResult) string {
	return fmt.Sprintf("code %d, read %d, patches %s, session %s", r.Code, r.Read, shownPatches(r.Patches), shownSession(r.Session))
}

// shownLists tells lists of patches, one by one.
func shownLists(lists [][]impl.Patch) string {
	var text strings.Builder
	for _, list := range lists {
		text.WriteString("(" + shownPatches(list) + ")")
	}
	return text.String()
}

// shownRun tells all that changes answer.
func shownRun(r impl.ChangesResult) string {
	return fmt.Sprintf("code %d, codes %v, patches %s, session %s", r.Code, r.Codes, shownLists(r.Patches), shownSession(r.Session))
}

// pieceFaultOf asks of one piece what stands behind "one by one": each number is held against the store by itself ahead of their sum, which is small then.
func pieceFaultOf(p impl.Piece, size int64) int64 {
	if p.From < 0 || p.Size < 1 || p.From > size || p.Size > size || p.From+p.Size > size {
		return impl.ErrRange
	}
	return impl.OK
}

// tableFaultOf is what the document asks of TableFault.
func tableFaultOf(x impl.Table) int64 {
	if len(x.Base) > maxStore || len(x.More) > maxStore || len(x.Pieces) > 40 {
		return impl.ErrMany
	}
	sum := int64(0)
	for _, p := range x.Pieces {
		size := int64(len(x.Base))
		if p.Added {
			size = int64(len(x.More))
		}
		if code := pieceFaultOf(p, size); code != impl.OK {
			return code
		}
		sum += p.Size
	}
	if sum > 240 {
		return impl.ErrLarge
	}
	return impl.OK
}

// tableEditOf is what the document asks of a table in a change, of an edit that SpliceBytes has no code of.
func tableEditOf(x impl.Table, e edit) impl.TableResult {
	cut := deleted(x, int(e.at), int(e.n))
	if len(cut.Pieces) > 40 {
		return impl.TableResult{Code: impl.ErrMany}
	}
	put := inserted(cut, int(e.at), []byte(e.put))
	if len(put.More) > maxStore || len(put.Pieces) > 40 {
		return impl.TableResult{Code: impl.ErrMany}
	}
	return impl.TableResult{Table: put}
}

// oneTable is a table of a text in one piece.
func oneTable(text string) impl.Table {
	table := impl.Table{Base: []byte(text)}
	if text != "" {
		table.Pieces = []impl.Piece{{Size: int64(len(text))}}
	}
	return table
}

// scatteredTable is a table of a text in pieces of so many bytes, of Base and More by turns, with a byte that is in no piece behind each.
func scatteredTable(text string, size int) impl.Table {
	var table impl.Table
	for piece := range slices.Chunk([]byte(text), size) {
		store, added := &table.Base, len(table.Pieces)%2 == 1
		if added {
			store = &table.More
		}
		table.Pieces = append(table.Pieces, impl.Piece{Added: added, From: int64(len(*store)), Size: int64(len(piece))})
		*store = append(append(*store, piece...), '?')
	}
	return table
}

// shownOf is what the document asks of what is shown.
func shownOf(p impl.Policy, text string) impl.BytesResult {
	return sanitizedOf(cleanOf(p, text))
}

// withView is a session with what is shown of its memo's text by its policy.
func withView(s impl.Session) impl.Session {
	out := shownOf(s.Policy, string(s.Memo.Data))
	s.Out, s.Status = out.Bytes, out.Code
	return s
}

// madeSession is one without a fault that the test has made, not the program.
func madeSession(p impl.Policy, text string, step int64) impl.Session {
	return withView(impl.Session{Policy: p, Table: oneTable(text), Memo: madeMemo(text, step)})
}

// withTable is a session with another table, be it of its text or not.
func withTable(s impl.Session, x impl.Table) impl.Session {
	s.Table = x
	return s
}

// openedOf is what the document asks of OpenSession.
func openedOf(p impl.Policy, text string, step int64) impl.SessionResult {
	if code := policyFaultOf(p); code != impl.OK {
		return impl.SessionResult{Code: code}
	}
	memo := memoOf(text, step)
	if memo.Code != impl.OK {
		return impl.SessionResult{Code: memo.Code}
	}
	return impl.SessionResult{Read: memo.Read, Session: madeSession(p, text, step)}
}

// thingsOf are what a change has: At, N, Put, a policy.
func thingsOf(c impl.Change) [4]bool {
	return [4]bool{c.At != 0, c.N != 0, len(c.Put) > 0, len(c.Policy.Tags)+len(c.Policy.Attrs)+len(c.Policy.Schemes) > 0}
}

// thingsOfKinds are what a change of each kind may have.
func thingsOfKinds() map[int64][4]bool {
	return map[int64][4]bool{1: {true, false, true, false}, 2: {true, true, false, false}, 3: {true, true, true, false}, 4: {false, false, false, true}, 5: {}}
}

// changeFaultOf is what the document asks of ChangeFault.
func changeFaultOf(c impl.Change) int64 {
	may, found := thingsOfKinds()[c.Kind]
	if !found {
		return impl.ErrForm
	}
	for i, has := range thingsOf(c) {
		if has && !may[i] {
			return impl.ErrForm
		}
	}
	if len(c.Put) > 240 {
		return impl.ErrLarge
	}
	if c.Kind == 4 {
		return policyFaultOf(c.Policy)
	}
	return impl.OK
}

// sessionFaultOf is what the document asks of SessionFault.
func sessionFaultOf(s impl.Session) int64 {
	for _, code := range []int64{policyFaultOf(s.Policy), tableFaultOf(s.Table), memoFaultOf(s.Memo)} {
		if code != impl.OK {
			return code
		}
	}
	want := shownOf(s.Policy, string(s.Memo.Data))
	if string(textOf(s.Table)) != string(s.Memo.Data) || string(want.Bytes) != string(s.Out) || want.Code != s.Status {
		return impl.ErrState
	}
	return impl.OK
}

// editedOf is what the document asks of a session in a change of its text, but for what is shown.
func editedOf(s impl.Session, e edit) impl.SessionResult {
	text := splicedOf(string(s.Memo.Data), e)
	if text.Code != impl.OK {
		return impl.SessionResult{Code: text.Code}
	}
	table := tableEditOf(s.Table, e)
	if table.Code != impl.OK {
		return impl.SessionResult{Code: table.Code}
	}
	meet, _ := meetOf(s.Memo, e)
	read := meet - lastCheckOf(s.Memo, e.at).Check.At
	return impl.SessionResult{Read: read, Session: impl.Session{Policy: s.Policy, Table: table.Table, Memo: madeMemo(string(text.Bytes), s.Memo.Step)}}
}

// changedOf is what the document asks of a change of a session without a fault.
func changedOf(s impl.Session, c impl.Change) impl.SessionResult {
	if code := changeFaultOf(c); code != impl.OK {
		return impl.SessionResult{Code: code}
	}
	done := impl.SessionResult{Session: s}
	switch c.Kind {
	case 4:
		done.Session.Policy = c.Policy
	case 5:
		done.Session.Table = oneTable(string(textOf(s.Table)))
	default:
		done = editedOf(s, edit{c.At, c.N, string(c.Put)})
	}
	if done.Code == impl.OK {
		done.Session = withView(done.Session)
		done.Patches = diffOf(string(s.Out), string(done.Session.Out)).Patches
	}
	return done
}

// doneOf is what the document asks of DoChange.
func doneOf(s impl.Session, c impl.Change) impl.SessionResult {
	if code := sessionFaultOf(s); code != impl.OK {
		return impl.SessionResult{Code: code}
	}
	return changedOf(s, c)
}

// runOf is what the document asks of RunChanges.
func runOf(s impl.Session, list []impl.Change) impl.ChangesResult {
	if code := sessionFaultOf(s); code != impl.OK {
		return impl.ChangesResult{Code: code}
	}
	if len(list) > 20 {
		return impl.ChangesResult{Code: impl.ErrMany}
	}
	run := impl.ChangesResult{Session: s}
	for _, c := range list {
		done := changedOf(run.Session, c)
		run.Codes, run.Patches = append(run.Codes, done.Code), append(run.Patches, done.Patches)
		if done.Code == impl.OK {
			run.Session = done.Session
		}
	}
	return run
}

// previewedOf is what the document asks of PreviewOf.
func previewedOf(data string, lists [][]impl.Patch) impl.BytesResult {
	if len(lists) > 20 {
		return impl.BytesResult{Code: impl.ErrMany}
	}
	for _, list := range lists {
		next := appliedOf(data, list)
		if next.Code != impl.OK {
			return next
		}
		data = string(next.Bytes)
	}
	return impl.BytesResult{Bytes: []byte(data)}
}

func wantSession(t *testing.T, what string, got impl.SessionResult, want impl.SessionResult) {
	t.Helper()
	if shownDone(got) != shownDone(want) {
		t.Errorf("%s: got %.900s, want %.900s", what, shownDone(got), shownDone(want))
	}
}

func wantRun(t *testing.T, what string, got impl.ChangesResult, want impl.ChangesResult) {
	t.Helper()
	if shownRun(got) != shownRun(want) {
		t.Errorf("%s: got %.900s, want %.900s", what, shownRun(got), shownRun(want))
	}
}

func wantChangeFault(t *testing.T, c impl.Change, code int64) {
	t.Helper()
	if got := impl.ChangeFault(c); got != code {
		t.Errorf("ChangeFault of %s: got %d, want %d", briefChange(c), got, code)
	}
	if changeFaultOf(c) != code {
		t.Errorf("%s: the test's own fault is %d, not %d", briefChange(c), changeFaultOf(c), code)
	}
}

// wantSessionFault holds SessionFault, and the calls that ask it, against a code; beside it there is nothing.
func wantSessionFault(t *testing.T, what string, s impl.Session, code int64) {
	t.Helper()
	what = fmt.Sprintf("%s, %s", what, briefSession(s))
	if got := impl.SessionFault(s); got != code {
		t.Errorf("SessionFault of %s: got %d, want %d", what, got, code)
	}
	if sessionFaultOf(s) != code {
		t.Errorf("%s: the test's own fault is %d, not %d", what, sessionFaultOf(s), code)
	}
	if code == impl.OK {
		wantSession(t, "DoChange of "+what, impl.DoChange(s, compacting()), doneOf(s, compacting()))
		return
	}
	wantSession(t, "DoChange of "+what, impl.DoChange(s, compacting()), impl.SessionResult{Code: code})
	wantRun(t, "RunChanges of "+what, impl.RunChanges(s, nil), impl.ChangesResult{Code: code})
}

func wantSameSessions(t *testing.T, what string, a impl.Session, b impl.Session, want bool) {
	t.Helper()
	if impl.SameSessions(a, b) != want || impl.SameSessions(b, a) != want {
		t.Errorf("SameSessions of %s and %s, %s: want %v", briefSession(a), briefSession(b), what, want)
	}
}

// wantDone holds DoChange against the document, and asks P16 of what it leads to.
func wantDone(t *testing.T, s impl.Session, c impl.Change) impl.SessionResult {
	t.Helper()
	what := fmt.Sprintf("DoChange of %s by %s", briefSession(s), briefChange(c))
	got := impl.DoChange(s, c)
	wantSession(t, what, got, doneOf(s, c))
	if got.Code == impl.OK {
		wantKeepsStep(t, what, s, c, got)
		wantPartsOfAChange(t, what, s, c, got)
	}
	return got
}

// wantKeepsStep asks P16 of a change without a code by what the program itself tells: all
// is as if it had been opened with that text, and the patches lead from what was shown to what is.
func wantKeepsStep(t *testing.T, what string, s impl.Session, c impl.Change, got impl.SessionResult) {
	t.Helper()
	next, text, policy := got.Session, s.Memo.Data, s.Policy
	if isEdit(c) {
		text = impl.SpliceBytes(text, c.At, c.N, c.Put).Bytes
	}
	if c.Kind == impl.DoPolicy {
		policy = c.Policy
	}
	if code := impl.SessionFault(next); code != impl.OK {
		t.Errorf("%s: what it leads to has the fault %d", what, code)
	}
	wantTold(t, what+", the text", impl.TextOf(next.Table), impl.BytesResult{Bytes: text})
	opened := impl.OpenSession(policy, text, s.Memo.Step)
	if opened.Code != impl.OK || shownSession(withTable(opened.Session, next.Table)) != shownSession(next) {
		t.Errorf("%s: got %.600s, opened it is %.600s", what, shownSession(next), shownSession(opened.Session))
	}
	wantTold(t, what+", the patches", impl.ApplyPatches(s.Out, got.Patches), impl.BytesResult{Bytes: next.Out})
	if (len(got.Patches) == 0) != (string(s.Out) == string(next.Out)) {
		t.Errorf("%s: from %q to %q there are %s", what, s.Out, next.Out, briefPatches(got.Patches))
	}
}

// wantPartsOfAChange asks of a change without a code that it leaves each part of the session as it is that it does not turn, and what is read.
func wantPartsOfAChange(t *testing.T, what string, s impl.Session, c impl.Change, got impl.SessionResult) {
	t.Helper()
	next := got.Session
	read := int64(0)
	if isEdit(c) {
		read = impl.EditMemo(s.Memo, c.At, c.N, c.Put).Read
	}
	if got.Read != read {
		t.Errorf("%s: got %d bytes read, want %d", what, got.Read, read)
	}
	if c.Kind != impl.DoPolicy && !slices.Equal(next.Policy.Tags, s.Policy.Tags) {
		t.Errorf("%s: the policy is %s", what, briefPolicy(next.Policy))
	}
	if !isEdit(c) && !impl.SameMemos(next.Memo, s.Memo) {
		t.Errorf("%s: the memo was turned", what)
	}
	if c.Kind == impl.DoPolicy && !impl.SameTables(next.Table, s.Table) {
		t.Errorf("%s: the table was turned", what)
	}
	if c.Kind == impl.DoCompact && (len(next.Table.Pieces) > 1 || string(next.Out) != string(s.Out)) {
		t.Errorf("%s: %d pieces, %q", what, len(next.Table.Pieces), next.Out)
	}
}

// wantChanges holds RunChanges against the document, and asks P16 of it: one by one, in two parts, and of what is shown at last.
func wantChanges(t *testing.T, s impl.Session, list []impl.Change) impl.ChangesResult {
	t.Helper()
	what := fmt.Sprintf("RunChanges of %s by %s", briefSession(s), briefChanges(list))
	got := impl.RunChanges(s, list)
	wantRun(t, what, got, runOf(s, list))
	if got.Code != impl.OK {
		return got
	}
	wantOneByOne(t, what, s, list, got)
	for _, cut := range []int{0, 1, len(list) / 2, len(list)} {
		wantInTwoParts(t, what, s, list, min(cut, len(list)), got)
	}
	wantTold(t, what+", PreviewOf", impl.PreviewOf(s.Out, got.Patches), impl.BytesResult{Bytes: got.Session.Out})
	return got
}

// wantOneByOne holds changes against DoChange of each.
func wantOneByOne(t *testing.T, what string, s impl.Session, list []impl.Change, got impl.ChangesResult) {
	t.Helper()
	one := impl.ChangesResult{Session: s}
	for _, c := range list {
		done := impl.DoChange(one.Session, c)
		one.Codes, one.Patches = append(one.Codes, done.Code), append(one.Patches, done.Patches)
		if done.Code == impl.OK {
			one.Session = done.Session
		}
	}
	wantRun(t, what+", one by one", got, one)
	if code := impl.SessionFault(got.Session); code != impl.OK {
		t.Errorf("%s: what they lead to has the fault %d", what, code)
	}
}

// wantInTwoParts holds changes against those ahead of a place, and those behind it on what these lead to.
func wantInTwoParts(t *testing.T, what string, s impl.Session, list []impl.Change, cut int, got impl.ChangesResult) {
	t.Helper()
	first := impl.RunChanges(s, list[:cut])
	then := impl.RunChanges(first.Session, list[cut:])
	both := impl.ChangesResult{Code: max(first.Code, then.Code), Codes: slices.Concat(first.Codes, then.Codes), Patches: slices.Concat(first.Patches, then.Patches), Session: then.Session}
	wantRun(t, fmt.Sprintf("%s, in two parts at %d", what, cut), got, both)
}

// wantOpened holds OpenSession, with a code or without one, against the document; what is opened has no fault.
func wantOpened(t *testing.T, p impl.Policy, text string, step int64) impl.Session {
	t.Helper()
	what := fmt.Sprintf("OpenSession of %.250q by %d and %s", text, step, briefPolicy(p))
	got := impl.OpenSession(p, []byte(text), step)
	wantSession(t, what, got, openedOf(p, text, step))
	if got.Code != impl.OK {
		return got.Session
	}
	if code := impl.SessionFault(got.Session); code != impl.OK {
		t.Errorf("%s: what is opened has the fault %d", what, code)
	}
	if !impl.SameTables(got.Session.Table, impl.NewTable([]byte(text)).Table) || !impl.SameMemos(got.Session.Memo, impl.NewMemo([]byte(text), step).Memo) {
		t.Errorf("%s: got %s", what, briefSession(got.Session))
	}
	wantTold(t, what, impl.BytesResult{Code: got.Session.Status, Bytes: got.Session.Out}, impl.SanitizeText(p, []byte(text)))
	return got.Session
}

// wantPreview holds PreviewOf against the document.
func wantPreview(t *testing.T, data string, lists [][]impl.Patch) impl.BytesResult {
	t.Helper()
	got := impl.PreviewOf([]byte(data), lists)
	wantTold(t, fmt.Sprintf("PreviewOf of %.100q by %d lists %.400s", data, len(lists), shownLists(lists[:min(len(lists), 21)])), got, previewedOf(data, lists))
	return got
}

// sessionsOfAllKinds have no fault: with marks of every kind and without any, in one piece and in many, of which something is shown, nothing, and what is too large.
func sessionsOfAllKinds() []impl.Session {
	marked := `<p title="one">a & b<u>c</u><a href="http:y">d<p>e`
	scattered := madeSession(openPolicy(), marked, 5)
	full := madeSession(policyOf("b", "", ""), strings.Repeat("x", 240), 60)
	return []impl.Session{
		madeSession(impl.Policy{}, "", 1), madeSession(openPolicy(), "", 60), madeSession(policyOf("b", "", ""), "<b>x", 4), madeSession(impl.Policy{}, marked, 3),
		withTable(scattered, scatteredTable(marked, 3)), withTable(scattered, scatteredTable(marked, 20)), madeSession(policyOf("a b script", "onload title", "js"), "<!-- n --><script>x</script>y&lt;<i>&am", 7),
		madeSession(openPolicy(), strings.Repeat("<p>", 61), 9), madeSession(impl.Policy{}, strings.Repeat("\"", 41)+"<b x", 50), full, withTable(full, scatteredTable(strings.Repeat("x", 240), 6)),
	}
}

// someChange is one of any kind for a text of so many bytes, by chance; few of them have a code.
func someChange(size int64, seed uint32) impl.Change {
	chance := func(below int64) int64 {
		seed = seed*1664525 + 1013904223
		return int64(seed>>16) % max(below, 1)
	}
	at := chance(size + 1)
	n := min(chance(9), size-at)
	put := mixed(cleanParts(), int(chance(4)), seed)
	switch chance(16) {
	case 0, 1:
		policies := filterPolicies()
		return obeying(policies[chance(int64(len(policies)))])
	case 2:
		return compacting()
	case 3:
		return []impl.Change{inserting(size+1, put), deleting(at, size-at+1), replacing(-1, n, put), {Kind: 6}, {Kind: 5, At: 1}, obeying(policyOf("b a", "", ""))}[chance(6)]
	case 4, 5, 6, 7:
		return deleting(at, n)
	case 8, 9, 10:
		return replacing(at, n, put)
	}
	return inserting(at, put)
}

// someChanges are n changes of a text of so many bytes, by chance; what they lead to has about as many bytes.
func someChanges(n int, size int, seed uint32) []impl.Change {
	var list []impl.Change
	for i := range uint32(n) {
		list = append(list, someChange(int64(size), seed*977+i*131))
	}
	return list
}
