package tests

import (
	"fmt"
	"slices"
	"strings"
	"testing"

	"loop.example/g00606/impl"
)

// The session that is opened, and the one that a change leads to, all of both told.
func TestASessionThatIsTold(t *testing.T) {
	p := policyOf("b", "title", "http")
	opened := impl.Session{
		Policy: p,
		Table:  impl.Table{Base: []byte("<b>x"), Pieces: []impl.Piece{{Size: 4}}},
		Memo:   impl.Memo{Data: []byte("<b>x"), Step: 2, Tokens: joined(list(start("b")), asBytes("x")), Checks: []impl.Check{check(0, 0, ""), check(2, 0, "<b"), check(4, 2, "")}},
		Out:    []byte("<b>x</b>"),
	}
	wantSession(t, "OpenSession", impl.OpenSession(p, []byte("<b>x"), 2), impl.SessionResult{Read: 4, Session: opened})
	typed := impl.Session{
		Policy: p,
		Table:  impl.Table{Base: []byte("<b>x"), More: []byte("y<i"), Pieces: []impl.Piece{{Size: 3}, {Added: true, Size: 3}}},
		Memo:   impl.Memo{Data: []byte("<b>y<i"), Step: 2, Tokens: joined(list(start("b")), asBytes("y")), Held: []byte("<i"), Checks: []impl.Check{check(0, 0, ""), check(2, 0, "<b"), check(4, 2, ""), check(6, 2, "<i")}},
		Out:    []byte("<b>y&lt;i</b>"),
	}
	wantSession(t, "DoChange", impl.DoChange(opened, replacing(3, 1, "y<i")), impl.SessionResult{Read: 4, Patches: patches(patch(3, 1, "y&lt;i")), Session: typed})
	run := impl.RunChanges(opened, changes(replacing(3, 1, "y<i"), impl.Change{}, compacting(), obeying(impl.Policy{})))
	last := typed
	last.Policy, last.Table, last.Out = impl.Policy{}, oneTable("<b>y<i"), []byte("y&lt;i")
	wantRun(t, "RunChanges", run, impl.ChangesResult{
		Codes:   []int64{impl.OK, impl.ErrForm, impl.OK, impl.OK},
		Patches: [][]impl.Patch{patches(patch(3, 1, "y&lt;i")), nil, nil, patches(patch(0, 13, "y&lt;i"))},
		Session: last,
	})
	wantTold(t, "PreviewOf", impl.PreviewOf(opened.Out, run.Patches), impl.BytesResult{Bytes: []byte("y&lt;i")})
}

// toldChange is a change of a session with all that it has to answer, told.
type toldChange struct {
	change  impl.Change
	text    string
	out     string
	read    int64
	patches []impl.Patch
	pieces  []impl.Piece
}

func wantToldChanges(t *testing.T, s impl.Session, all ...toldChange) {
	t.Helper()
	for _, c := range all {
		what := fmt.Sprintf("DoChange of %s by %s", briefSession(s), briefChange(c.change))
		got := wantDone(t, s, c.change)
		next := got.Session
		if got.Code != impl.OK || string(next.Memo.Data) != c.text || string(textOf(next.Table)) != c.text || string(next.Out) != c.out || next.Status != impl.OK {
			t.Errorf("%s: got %d, %s, want %q, %q", what, got.Code, briefSession(next), c.text, c.out)
		}
		if got.Read != c.read || shownPatches(got.Patches) != shownPatches(c.patches) || !slices.Equal(next.Table.Pieces, c.pieces) {
			t.Errorf("%s: got %d, %s, %v, want %d, %s, %v", what, got.Read, briefPatches(got.Patches), next.Table.Pieces, c.read, briefPatches(c.patches), c.pieces)
		}
	}
}

// One change of each kind, and edits of marks and in them.
func TestChangesThatAreTold(t *testing.T) {
	base := func(from int64, size int64) impl.Piece { return impl.Piece{From: from, Size: size} }
	more := func(from int64, size int64) impl.Piece { return impl.Piece{Added: true, From: from, Size: size} }
	pieces := func(list ...impl.Piece) []impl.Piece { return list }
	wantToldChanges(t, madeSession(policyOf("b", "", ""), "<b>x", 4),
		toldChange{inserting(4, "y"), "<b>xy", "<b>xy</b>", 1, patches(patch(4, 0, "y")), pieces(base(0, 4), more(0, 1))},
		toldChange{inserting(3, "yz"), "<b>yzx", "<b>yzx</b>", 6, patches(patch(3, 0, "yz")), pieces(base(0, 3), more(0, 2), base(3, 1))},
		toldChange{inserting(0, "<b>"), "<b><b>x", "<b><b>x</b></b>", 3, patches(patch(3, 1, "<b>x</b>")), pieces(more(0, 3), base(0, 4))},
		toldChange{inserting(2, "\""), "<b\">x", "&lt;b&quot;&gt;x", 5, patches(patch(0, 8, "&lt;b&quot;&gt;x")), pieces(base(0, 2), more(0, 1), base(2, 2))},
		toldChange{inserting(4, ""), "<b>x", "<b>x</b>", 0, nil, pieces(base(0, 4))},
		toldChange{inserting(4, "</b>"), "<b>x</b>", "<b>x</b>", 4, nil, pieces(base(0, 4), more(0, 4))},
		toldChange{inserting(4, "<u></u>"), "<b>x<u></u>", "<b>x</b>", 7, nil, pieces(base(0, 4), more(0, 7))},
		toldChange{deleting(3, 1), "<b>", "<b></b>", 3, patches(patch(3, 1, "")), pieces(base(0, 3))},
		toldChange{deleting(0, 3), "x", "x", 1, patches(patch(0, 8, "x")), pieces(base(3, 1))},
		toldChange{deleting(1, 1), "<>x", "&lt;&gt;x", 3, patches(patch(0, 8, "&lt;&gt;x")), pieces(base(0, 1), base(2, 2))},
		toldChange{deleting(0, 4), "", "", 0, patches(patch(0, 8, "")), nil},
		toldChange{deleting(2, 0), "<b>x", "<b>x</b>", 4, nil, pieces(base(0, 4))},
		toldChange{replacing(1, 1, "i"), "<i>x", "x", 4, patches(patch(0, 8, "x")), pieces(base(0, 1), more(0, 1), base(2, 2))},
		toldChange{replacing(3, 1, "x"), "<b>x", "<b>x</b>", 4, nil, pieces(base(0, 3), more(0, 1))},
		toldChange{replacing(0, 4, "a&b"), "a&b", "a&amp;b", 3, patches(patch(0, 8, "a&amp;b")), pieces(more(0, 3))},
		toldChange{obeying(policyOf("b i", "", "")), "<b>x", "<b>x</b>", 0, nil, pieces(base(0, 4))},
		toldChange{obeying(policyOf("i", "", "")), "<b>x", "x", 0, patches(patch(0, 8, "x")), pieces(base(0, 4))},
		toldChange{compacting(), "<b>x", "<b>x</b>", 0, nil, pieces(base(0, 4))},
	)
	laid := withTable(madeSession(policyOf("b", "", ""), "<b>x", 1), impl.Table{Base: []byte("zx<b>"), More: []byte("b>"), Pieces: []impl.Piece{base(2, 1), more(0, 2), base(1, 1)}})
	wantToldChanges(t, laid,
		toldChange{inserting(2, "r"), "<br>x", "x", 2, patches(patch(0, 8, "x")), pieces(base(2, 1), more(0, 1), more(2, 1), more(1, 1), base(1, 1))},
		toldChange{deleting(1, 2), "<x", "&lt;x", 1, patches(patch(0, 8, "&lt;x")), pieces(base(2, 1), base(1, 1))},
		toldChange{compacting(), "<b>x", "<b>x</b>", 0, nil, pieces(base(0, 4))},
	)
}

// What is shown while a text is typed byte by byte, and while it is taken away again.
func TestWhatIsShownWhileATextIsTyped(t *testing.T) {
	s := wantOpened(t, policyOf("b", "", ""), "", 2)
	var list []impl.Change
	for i, b := range "a<b>c&d<u>" {
		list = append(list, inserting(int64(i), string(b)))
	}
	shown := []string{"a", "a&lt;", "a&lt;b", "a<b></b>", "a<b>c</b>", "a<b>c&amp;</b>", "a<b>c&amp;d</b>", "a<b>c&amp;d&lt;</b>", "a<b>c&amp;d&lt;u</b>", "a<b>c&amp;d</b>"}
	for i, want := range shown {
		s = wantDone(t, s, list[i]).Session
		if string(s.Out) != want {
			t.Errorf("%q is typed, %q is shown, want %q", s.Memo.Data, s.Out, want)
		}
	}
	shown = append([]string{""}, shown...)
	for i := len(shown) - 2; i >= 0; i-- {
		s = wantDone(t, s, deleting(int64(i), 1)).Session
		if string(s.Out) != shown[i] {
			t.Errorf("%q is left, %q is shown, want %q", s.Memo.Data, s.Out, shown[i])
		}
	}
}

// toldLarge is a text of which something is shown, and a change that makes it too large.
type toldLarge struct {
	what   string
	policy impl.Policy
	text   string
	change impl.Change
}

// largeChanges make a text too large: of its nodes, and of what comes out, each at its bound.
func largeChanges() []toldLarge {
	b := policyOf("b", "title", "")
	return []toldLarge{
		{"61 nodes", impl.Policy{}, strings.Repeat("<p>", 59) + "x", inserting(0, "<p>")},
		{"61 nodes, of text and void ones", impl.Policy{}, "x" + strings.Repeat("<br>", 58) + "y", inserting(1, "<i>")},
		{"many nodes, of which few are kept", b, "<b>x" + strings.Repeat("<u/>", 58), inserting(4, "<u/>")},
		{"246 bytes of quotes", impl.Policy{}, strings.Repeat("\"", 40), inserting(40, "\"")},
		{"241 bytes of text and a reference", impl.Policy{}, strings.Repeat("x", 235) + "&", inserting(0, "x")},
		{"241 bytes of marks", b, strings.Repeat("x", 230) + "<b>", inserting(230, "xxxx")},
		{"ends that are not typed", b, strings.Repeat("<b/>", 30) + strings.Repeat("x", 30), replacing(120, 6, "<b>")},
		{"a byte turned", impl.Policy{}, strings.Repeat("x", 233) + "\"x", replacing(0, 1, "<")},
		{"a mark opened", b, "<b title=\"x\">" + strings.Repeat("y", 200), replacing(12, 1, strings.Repeat("\"", 9))},
	}
}

// What is too large shows nothing, and Status tells why; what makes it small again makes all well again.
func TestTextsThatGrowTooLarge(t *testing.T) {
	for _, c := range largeChanges() {
		s := madeSession(c.policy, c.text, 7)
		if s.Status != impl.OK || len(s.Out) == 0 {
			t.Errorf("%s: of %s nothing is shown at first", c.what, briefSession(s))
		}
		got := wantDone(t, s, c.change)
		large := got.Session
		if got.Code != impl.OK || large.Status != impl.ErrLarge || len(large.Out) > 0 {
			t.Errorf("%s: got %d, %s", c.what, got.Code, briefSession(large))
		}
		wantPatches(t, c.what, impl.PatchesResult{Patches: got.Patches}, impl.PatchesResult{Patches: patches(patch(0, int64(len(s.Out)), ""))})
		back := replacing(c.change.At, int64(len(c.change.Put)), c.text[c.change.At:c.change.At+c.change.N])
		again := wantDone(t, large, back)
		if again.Session.Status != impl.OK || string(again.Session.Out) != string(s.Out) || !impl.SameMemos(again.Session.Memo, s.Memo) {
			t.Errorf("%s, and back: got %s", c.what, briefSession(again.Session))
		}
		wantPatches(t, c.what+", and back", impl.PatchesResult{Patches: again.Patches}, impl.PatchesResult{Patches: patches(patch(0, 0, string(s.Out)))})
		run := wantChanges(t, s, changes(c.change, compacting(), back, c.change, impl.Change{}, deleting(0, int64(len(large.Memo.Data))), inserting(0, "x")))
		if string(run.Session.Out) != "x" || run.Session.Status != impl.OK {
			t.Errorf("%s, and more: got %s", c.what, briefSession(run.Session))
		}
	}
}

// What is too large and stays so shows nothing all the while: there are no Patches.
func TestTextsThatStayTooLarge(t *testing.T) {
	for _, c := range largeChanges() {
		large := impl.DoChange(madeSession(c.policy, c.text, 7), c.change).Session
		size := int64(len(large.Memo.Data))
		for _, change := range []impl.Change{inserting(size, ""), deleting(0, 0), replacing(0, 1, string(large.Memo.Data[:1])), compacting(), obeying(c.policy), inserting(0, "<!---->"), inserting(size, "\"")} {
			if size+int64(len(change.Put))-change.N > 240 {
				continue
			}
			got := wantDone(t, large, change)
			if got.Code != impl.OK || len(got.Patches) > 0 || got.Session.Status != impl.ErrLarge || len(got.Session.Out) > 0 {
				t.Errorf("%s, then %s: got %d, %s, %s", c.what, briefChange(change), got.Code, briefPatches(got.Patches), briefSession(got.Session))
			}
		}
		// A change with a code leaves it as it is.
		for _, change := range changesOfAllCodes(size)[5:] {
			if run := wantChanges(t, large, changes(change)); run.Codes[0] != impl.OK && !impl.SameSessions(run.Session, large) {
				t.Errorf("%s, then %s: got %s", c.what, briefChange(change), briefSession(run.Session))
			}
		}
	}
}

// What is too large by one policy need not be so by another one, and back.
func TestTextsThatAreTooLargeByAPolicy(t *testing.T) {
	narrow, open := impl.Policy{}, policyOf("b i", "title", "")
	for text, out := range map[string]string{
		"x" + strings.Repeat("<i/>", 35): "x", strings.Repeat("x", 20) + strings.Repeat("<b/>y", 29): strings.Repeat("x", 20) + strings.Repeat("y", 29), strings.Repeat("<i title=\"&\"/>", 13) + "x": "x", strings.Repeat("<b/>", 40): "",
	} {
		small, large := wantOpened(t, narrow, text, 6), wantOpened(t, open, text, 6)
		if string(small.Out) != out || small.Status != impl.OK || large.Status != impl.ErrLarge || len(large.Out) > 0 {
			t.Errorf("%q: got %s and %s", text, briefSession(small), briefSession(large))
		}
		there, back := wantDone(t, small, obeying(open)), wantDone(t, large, obeying(narrow))
		if !impl.SameSessions(there.Session, large) || !impl.SameSessions(back.Session, small) {
			t.Errorf("%q: got %s there, %s back", text, briefSession(there.Session), briefSession(back.Session))
		}
		wantPatches(t, text+", there", impl.PatchesResult{Patches: there.Patches}, diffOf(out, ""))
		wantPatches(t, text+", back", impl.PatchesResult{Patches: back.Patches}, diffOf("", out))
		wantChanges(t, large, changes(obeying(narrow), deleting(0, 10), obeying(open), obeying(open), compacting(), obeying(narrow)))
	}
}

// What is too deep is left out, and has no code: what is shown stays as it is, however deep it is typed.
func TestTextsThatGrowTooDeep(t *testing.T) {
	s := wantOpened(t, policyOf("b i", "", ""), "x", 5)
	for n := 1; n <= 20; n++ {
		got := wantDone(t, s, inserting(int64(n-1)*3, "<b>"))
		s = got.Session
		in := min(n, 7)
		if want := strings.Repeat("<b>", in) + "x" + strings.Repeat("</b>", in); string(s.Out) != want || s.Status != impl.OK || (len(got.Patches) == 0) != (n > 7) {
			t.Errorf("%d deep: got %s, %s, want %q", n, briefSession(s), briefPatches(got.Patches), want)
		}
	}
}

// A policy that lets in nothing, one that lets in all that is safe, and the session's own: table and memo stay as they are.
func TestPoliciesOfASession(t *testing.T) {
	for _, s := range sessionsOfAllKinds() {
		own := wantDone(t, s, obeying(s.Policy))
		if own.Code != impl.OK || own.Read != 0 || len(own.Patches) > 0 || !impl.SameSessions(own.Session, s) {
			t.Errorf("%s, by its own policy: got %d, %d read, %s, %s", briefSession(s), own.Code, own.Read, briefPatches(own.Patches), briefSession(own.Session))
		}
		for _, p := range append(filterPolicies(), policyOf("script style u", "onload", "js"), openPolicy(), impl.Policy{Tags: rising(10), Attrs: rising(10), Schemes: rising(10)}) {
			if policyFaultOf(p) != impl.OK {
				continue
			}
			got := wantDone(t, s, obeying(p))
			if got.Read != 0 || !impl.SameTables(got.Session.Table, s.Table) || !impl.SameMemos(got.Session.Memo, s.Memo) || shownSession(got.Session) != shownSession(withView(impl.Session{Policy: p, Table: s.Table, Memo: s.Memo})) {
				t.Errorf("%s by %s: got %d read, %s", briefSession(s), briefPolicy(p), got.Read, briefSession(got.Session))
			}
			if letsInNothing(p) && strings.ContainsAny(string(got.Session.Out), "<>\"") {
				t.Errorf("%s by %s: %q is shown", briefSession(s), briefPolicy(p), got.Session.Out)
			}
			back := wantDone(t, got.Session, obeying(s.Policy))
			if !impl.SameSessions(back.Session, s) {
				t.Errorf("%s by %s, and back: got %s", briefSession(s), briefPolicy(p), briefSession(back.Session))
			}
		}
	}
}

// Policies that turn what is shown, and policies that do not, told.
func TestPoliciesThatTurnWhatIsShown(t *testing.T) {
	text := `<a href="http:x" title="y">z</a><b>w<script>v`
	s := wantOpened(t, policyOf("a", "href", "http"), text, 9)
	shown := `<a href="http:x">z</a>w`
	for _, c := range []struct {
		policy impl.Policy
		out    string
		list   []impl.Patch
	}{
		{policyOf("a", "href", "http"), shown, nil}, {policyOf("a", "href", "http js"), shown, nil}, {policyOf("a script u", "href onload", "http"), shown, nil}, {policyOf("a i p", "href width", "http mailto"), shown, nil},
		{impl.Policy{}, "zw", patches(patch(0, 22, "z"))}, {policyOf("script style", "href", "http"), "zw", patches(patch(0, 22, "z"))}, {policyOf("a", "href", "js"), "<a>z</a>w", patches(patch(2, 14, ""))}, {policyOf("a", "", "http"), "<a>z</a>w", patches(patch(2, 14, ""))},
		{policyOf("a", "title", "http"), `<a title="y">z</a>w`, patches(patch(3, 12, `title="y`))}, {policyOf("a b", "href", "http"), `<a href="http:x">z</a><b>w</b>`, patches(patch(22, 1, "<b>w</b>"))}, {openPolicy(), `<a href="http:x" title="y">z</a><b>w</b>`, patches(patch(16, 7, ` title="y">z</a><b>w</b>`))},
	} {
		got := wantDone(t, s, obeying(c.policy))
		if string(s.Out) != shown || string(got.Session.Out) != c.out || shownPatches(got.Patches) != shownPatches(c.list) {
			t.Errorf("by %s: got %q, %s, want %q, %s", briefPolicy(c.policy), got.Session.Out, briefPatches(got.Patches), c.out, briefPatches(c.list))
		}
	}
}

// In one piece all is as it was but the table, whatever that was.
func TestSessionsInOnePiece(t *testing.T) {
	for _, s := range sessionsOfAllKinds() {
		text := string(s.Memo.Data)
		got := wantDone(t, s, compacting())
		wantSession(t, "compact of "+briefSession(s), got, impl.SessionResult{Session: withTable(s, oneTable(text))})
		wantSameSessions(t, "compact", got.Session, s, shownSession(got.Session) == shownSession(s))
		twice := wantDone(t, got.Session, compacting())
		wantSession(t, "compact twice of "+briefSession(s), twice, got)
	}
}

// Sessions are the same where all is, whatever it is: of one thing turned they are not.
func TestSameSessions(t *testing.T) {
	for _, s := range sessionsToTurn() {
		wantSameSessions(t, "itself", s, s, true)
		wantSameSessions(t, "a copy", s, roomySession(s), true)
		for _, turned := range sessionTurns(s) {
			wantSameSessions(t, turned.what, s, turned.session, false)
			wantSameSessions(t, turned.what+", copied", turned.session, roomySession(turned.session), true)
		}
	}
}

// Two sessions are the same only if all is, those with a fault among them.
func TestSameSessionsOfAllKinds(t *testing.T) {
	all := append(sessionsOfAllKinds(), impl.Session{})
	for _, s := range sessionsToTurn() {
		for i, turned := range sessionTurns(s) {
			if i%23 == 0 {
				all = append(all, turned.session)
			}
		}
	}
	var texts []string
	for _, s := range all {
		texts = append(texts, shownSession(s))
	}
	for i, a := range all {
		for j, b := range all {
			if impl.SameSessions(a, b) != (texts[i] == texts[j]) {
				t.Errorf("SameSessions of %s and %s: want %v", texts[i], texts[j], texts[i] == texts[j])
			}
		}
	}
}

// Words that are the same in another list, or cut at another place, do not make sessions the same.
func TestSessionsThatLookAlike(t *testing.T) {
	all := []impl.Session{
		{}, {Policy: policyOf("b", "", "")}, {Policy: policyOf("", "b", "")}, {Policy: policyOf("", "", "b")}, {Policy: policyOf("b", "b", "")}, {Policy: policyOf("b i", "", "")}, {Policy: policyOf("bi", "", "")}, {Policy: policyOf("i b", "", "")}, {Policy: impl.Policy{Tags: []string{""}}}, {Policy: impl.Policy{Schemes: []string{""}}},
		{Table: impl.Table{Base: []byte("x")}}, {Table: impl.Table{More: []byte("x")}}, {Table: impl.Table{Pieces: []impl.Piece{{}}}}, {Table: impl.Table{Pieces: []impl.Piece{{Added: true}}}}, {Table: impl.Table{Pieces: []impl.Piece{{}, {}}}},
		{Memo: impl.Memo{Data: []byte("x")}}, {Memo: impl.Memo{Held: []byte("x")}}, {Memo: impl.Memo{Step: 1}}, {Memo: impl.Memo{Tokens: list(impl.Token{})}}, {Memo: impl.Memo{Checks: []impl.Check{{}}}},
		{Out: []byte("x")}, {Out: []byte{0}}, {Out: []byte("xx")}, {Status: 1}, {Status: -1}, {Status: 6}, {Out: []byte("x"), Status: 6},
	}
	for i, a := range all {
		for j, b := range all {
			wantSameSessions(t, "look alike", a, b, i == j)
		}
	}
}
