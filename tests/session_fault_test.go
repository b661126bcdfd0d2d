package tests

import (
	"fmt"
	"math"
	"slices"
	"strings"
	"testing"

	"loop.example/g00606/impl"
)

// kinds are those of all changes.
func kinds() []int64 {
	return []int64{impl.DoInsert, impl.DoDelete, impl.DoReplace, impl.DoPolicy, impl.DoCompact}
}

// fullChange has everything that there is.
func fullChange(kind int64) impl.Change {
	return impl.Change{Kind: kind, At: 1, N: 1, Put: []byte("x"), Policy: policyOf("b", "title", "http")}
}

// without takes from a change what has that number: At, N, Put, Tags, Attrs, Schemes.
func without(c impl.Change, number int) impl.Change {
	switch number {
	case 0:
		c.At = 0
	case 1:
		c.N = 0
	case 2:
		c.Put = nil
	default:
		c.Policy = withList(c.Policy, number-3, nil)
	}
	return c
}

// The numbers of the kinds are those that the document tells, and no other number is one.
func TestKindsOfChanges(t *testing.T) {
	if !slices.Equal(kinds(), []int64{1, 2, 3, 4, 5}) || impl.MaxChanges != 20 {
		t.Errorf("the kinds are %v, there are at most %d changes", kinds(), impl.MaxChanges)
	}
	for _, kind := range append(oddNumbers(), 0, 6, -1, 7, 1<<32+1, 256+1, math.MinInt64, math.MaxInt64) {
		code := int64(impl.ErrForm)
		if kind >= 1 && kind <= 5 {
			code = impl.OK
		}
		wantChangeFault(t, impl.Change{Kind: kind}, code)
		wantChangeFault(t, fullChange(kind), impl.ErrForm)
		if code != impl.OK {
			for number := range 6 {
				wantChangeFault(t, without(fullChange(kind), number), impl.ErrForm)
			}
			wantChangeFault(t, impl.Change{Kind: kind, Put: make([]byte, 241)}, impl.ErrForm)
			wantChangeFault(t, impl.Change{Kind: kind, Policy: wrongPolicies()[impl.ErrMany]}, impl.ErrForm)
		}
	}
}

// Each kind with every choice of what there is: At, N, Put, and each list of the policy by itself.
func TestWhatAKindHasNot(t *testing.T) {
	may := map[int64]string{impl.DoInsert: "101000", impl.DoDelete: "110000", impl.DoReplace: "111000", impl.DoPolicy: "000111", impl.DoCompact: "000000"}
	for _, kind := range kinds() {
		for choice := range 64 {
			c, code := fullChange(kind), int64(impl.OK)
			for number := range 6 {
				if choice>>number%2 == 0 {
					c = without(c, number)
				} else if may[kind][number] == '0' {
					code = impl.ErrForm
				}
			}
			wantChangeFault(t, c, code)
		}
	}
}

// What a kind has may be any number; what it has not is told from 0, however near or far.
func TestNumbersOfChanges(t *testing.T) {
	for _, n := range append(oddNumbers(), math.MinInt64, math.MaxInt64) {
		form := int64(impl.ErrForm)
		if n == 0 {
			form = impl.OK
		}
		wantChangeFault(t, inserting(n, "x"), impl.OK)
		wantChangeFault(t, deleting(n, n), impl.OK)
		wantChangeFault(t, replacing(n, n, "x"), impl.OK)
		wantChangeFault(t, impl.Change{Kind: impl.DoInsert, N: n}, form)
		for _, kind := range []int64{impl.DoPolicy, impl.DoCompact} {
			wantChangeFault(t, impl.Change{Kind: kind, At: n}, form)
			wantChangeFault(t, impl.Change{Kind: kind, N: n}, form)
		}
	}
}

// A Put of MaxText bytes, and of one more; of a kind that has none its form is told.
func TestSizesOfPutsOfChanges(t *testing.T) {
	for size, code := range map[int]int64{0: impl.OK, 1: impl.OK, 239: impl.OK, 240: impl.OK, 241: impl.ErrLarge, 2000: impl.ErrLarge, 20000000: impl.ErrLarge} {
		put := make([]byte, size)
		for _, kind := range kinds() {
			want := code
			if kind != impl.DoInsert && kind != impl.DoReplace && size > 0 {
				want = impl.ErrForm
			}
			wantChangeFault(t, impl.Change{Kind: kind, Put: put}, want)
		}
		// A form that is off and a Put that is too large at once.
		wantChangeFault(t, impl.Change{Kind: impl.DoInsert, N: 1, Put: put}, impl.ErrForm)
		wantChangeFault(t, impl.Change{Kind: impl.DoReplace, Put: put, Policy: policyOf("b", "", "")}, impl.ErrForm)
		wantChangeFault(t, impl.Change{Kind: impl.DoReplace, At: -1, N: -1, Put: put}, code)
	}
}

// A policy with a fault is told in a change by a policy; in another kind its form is off.
func TestPoliciesOfChanges(t *testing.T) {
	for code, policies := range badPolicies() {
		for _, p := range policies {
			wantChangeFault(t, obeying(p), code)
			for _, kind := range []int64{impl.DoInsert, impl.DoDelete, impl.DoReplace, impl.DoCompact, 0, 6} {
				wantChangeFault(t, impl.Change{Kind: kind, Policy: p}, impl.ErrForm)
			}
			wantChangeFault(t, impl.Change{Kind: impl.DoPolicy, At: 1, Policy: p}, impl.ErrForm)
			wantChangeFault(t, impl.Change{Kind: impl.DoPolicy, Put: make([]byte, 241), Policy: p}, impl.ErrForm)
		}
	}
	for _, p := range rightPolicies() {
		wantChangeFault(t, obeying(p), impl.OK)
	}
}

// turnedSession is a session one thing of which was turned, and what that was.
type turnedSession struct {
	what    string
	session impl.Session
}

// wordsTurned are lists that differ from one in one word: turned, gone, or put.
func wordsTurned(words []string) [][]string {
	lists := [][]string{append(slices.Clone(words), "zz"), append(slices.Clone(words), ""), append([]string{"zz"}, words...)}
	for i := range words {
		other := slices.Clone(words)
		other[i] += "x"
		lists = append(lists, other, slices.Delete(slices.Clone(words), i, i+1), slices.Insert(slices.Clone(words), i, words[i]))
	}
	return lists
}

// tablesTurned are tables that differ from one in one thing.
func tablesTurned(x impl.Table) []impl.Table {
	var all []impl.Table
	add := func(turn func(x *impl.Table)) {
		other := deepCopy(x)
		turn(&other)
		all = append(all, other)
	}
	for _, data := range bytesTurned(x.Base) {
		add(func(x *impl.Table) { x.Base = data })
	}
	for _, data := range bytesTurned(x.More) {
		add(func(x *impl.Table) { x.More = data })
	}
	for i, p := range x.Pieces {
		add(func(x *impl.Table) { x.Pieces[i].Added = !p.Added })
		add(func(x *impl.Table) { x.Pieces[i].From++ })
		add(func(x *impl.Table) { x.Pieces[i].From-- })
		add(func(x *impl.Table) { x.Pieces[i].Size++ })
		add(func(x *impl.Table) { x.Pieces[i].Size-- })
		add(func(x *impl.Table) { x.Pieces[i].Size = math.MaxInt64 })
		add(func(x *impl.Table) { x.Pieces = slices.Delete(x.Pieces, i, i+1) })
		add(func(x *impl.Table) { x.Pieces = slices.Insert(x.Pieces, i, p) })
	}
	add(func(x *impl.Table) { x.Pieces = append(x.Pieces, impl.Piece{}) })
	return all
}

// sessionTurns are all sessions that differ from one in one thing, whatever that leads to.
func sessionTurns(s impl.Session) []turnedSession {
	var all []turnedSession
	add := func(what string, other impl.Session) { all = append(all, turnedSession{what, other}) }
	for number, words := range [][]string{s.Policy.Tags, s.Policy.Attrs, s.Policy.Schemes} {
		for _, turned := range wordsTurned(words) {
			other := s
			other.Policy = withList(s.Policy, number, turned)
			add(fmt.Sprintf("the list %d of the policy", number), other)
		}
	}
	for _, x := range tablesTurned(s.Table) {
		add("the table", withTable(s, x))
	}
	for _, turned := range turnsOf(s.Memo) {
		other := s
		other.Memo = turned.memo
		add("the memo: "+turned.what, other)
	}
	for _, out := range bytesTurned(s.Out) {
		other := s
		other.Out = out
		add("Out", other)
	}
	for _, n := range []int64{1, -1, 6, 256, math.MinInt64, math.MaxInt64} {
		other := s
		other.Status += n
		add("Status", other)
	}
	return all
}

// sessionsToTurn are few and small, so that all that may be turned can be; one of them has a Status.
func sessionsToTurn() []impl.Session {
	few := madeSession(policyOf("b i", "title", "http"), "a<b>c<u", 3)
	large := madeSession(policyOf("b", "", ""), strings.Repeat("\"", 41), 60)
	return []impl.Session{madeSession(impl.Policy{}, "", 1), few, withTable(few, scatteredTable("a<b>c<u", 2)), withTable(madeSession(openPolicy(), "<!-- n --><u>xy</u>&lt;", 8), scatteredTable("<!-- n --><u>xy</u>&lt;", 9)), large}
}

// A session one thing of which was turned has a fault, but where that is no part of what it is.
func TestSessionsWithOneThingTurned(t *testing.T) {
	count := map[int64]int{}
	for _, s := range sessionsToTurn() {
		wantSessionFault(t, "nothing turned", s, impl.OK)
		for _, turned := range sessionTurns(s) {
			code := sessionFaultOf(turned.session)
			wantSessionFault(t, turned.what, turned.session, code)
			count[code]++
			if (turned.what == "Out" || turned.what == "Status") && code != impl.ErrState {
				t.Errorf("%s: the fault would be %d", turned.what, code)
			}
		}
	}
	for _, code := range []int64{impl.OK, impl.ErrForm, impl.ErrRange, impl.ErrText, impl.ErrState} {
		if count[code] < 10 {
			t.Errorf("%d is told of %d sessions alone: %v", code, count[code], count)
		}
	}
}

// What a session is of all together: a policy, a table, a memo and what is shown that are each right of something else.
func TestPartsOfSessionsThatDoNotFit(t *testing.T) {
	all := sessionsOfAllKinds()
	for i, a := range all {
		wantSessionFault(t, "as it is", a, impl.OK)
		for _, b := range all {
			for part := range 4 {
				other := a
				switch part {
				case 0:
					other.Policy = b.Policy
				case 1:
					other.Table = b.Table
				case 2:
					other.Memo = b.Memo
				default:
					other.Out, other.Status = b.Out, b.Status
				}
				code := sessionFaultOf(other)
				if code != impl.OK && code != impl.ErrState {
					t.Errorf("part %d of another session in %d: the fault would be %d", part, i, code)
				}
				wantSessionFault(t, fmt.Sprintf("part %d of another one", part), other, code)
			}
		}
	}
}

// The Data of the memo that is not the text, Out and Status that are not so, each by itself, told.
func TestStatesThatDoNotFit(t *testing.T) {
	right := madeSession(policyOf("b", "", ""), "<b>x", 4)
	large := madeSession(policyOf("b", "", ""), strings.Repeat("\"", 41), 4)
	for what, turn := range map[string]func(s *impl.Session){
		"a table of another text":         func(s *impl.Session) { s.Table = oneTable("<b>y") },
		"a table of more":                 func(s *impl.Session) { s.Table = oneTable("<b>xy") },
		"a table of nothing":              func(s *impl.Session) { s.Table = impl.Table{} },
		"a memo of another text":          func(s *impl.Session) { s.Memo = madeMemo("<b>y", 4) },
		"a memo of nothing":               func(s *impl.Session) { s.Memo = madeMemo("", 4) },
		"table, memo, of another text":    func(s *impl.Session) { s.Table, s.Memo = oneTable("<b>y"), madeMemo("<b>y", 4) },
		"Out of another text":             func(s *impl.Session) { s.Out = []byte("<b>y</b>") },
		"Out as it was typed":             func(s *impl.Session) { s.Out = []byte("<b>x") },
		"Out by another policy":           func(s *impl.Session) { s.Out = []byte("x") },
		"Out gone":                        func(s *impl.Session) { s.Out = nil },
		"a Status beside Out":             func(s *impl.Session) { s.Status = impl.ErrLarge },
		"a Status of no code":             func(s *impl.Session) { s.Status = 8 },
		"a Status, and Out gone":          func(s *impl.Session) { s.Status, s.Out = impl.ErrLarge, nil },
		"another policy":                  func(s *impl.Session) { s.Policy = impl.Policy{} },
		"all of another one but the memo": func(s *impl.Session) { m := s.Memo; *s = large; s.Memo = m },
	} {
		other := right
		turn(&other)
		wantSessionFault(t, what, other, impl.ErrState)
	}
	// Of what is too large.
	for what, turn := range map[string]func(s *impl.Session){
		"no Status":         func(s *impl.Session) { s.Status = impl.OK },
		"another Status":    func(s *impl.Session) { s.Status = impl.ErrMany },
		"a Status below 0":  func(s *impl.Session) { s.Status = -impl.ErrLarge },
		"something is Out":  func(s *impl.Session) { s.Out = []byte("x") },
		"all that would be": func(s *impl.Session) { s.Out = []byte(strings.Repeat("&quot;", 41)) },
	} {
		other := large
		turn(&other)
		wantSessionFault(t, what, other, impl.ErrState)
	}
	// A table that is laid otherwise is of its text all the same, and a policy that shows the same is one.
	right.Table = impl.Table{Base: []byte("x<b>"), More: []byte("yxy"), Pieces: []impl.Piece{{From: 1, Size: 3}, {Added: true, From: 1, Size: 1}}}
	wantSessionFault(t, "a table laid otherwise", right, impl.OK)
	right.Policy = policyOf("b i zz", "href", "js")
	wantSessionFault(t, "a policy that shows the same", right, impl.OK)
}

// partsWithFaults are policies, tables and memos with each of their faults, by their codes; under 0 stand right ones.
func partsWithFaults(right impl.Session) (policies map[int64]impl.Policy, tables map[int64]impl.Table, memos map[int64]impl.Memo) {
	policies, tables, memos = wrongPolicies(), map[int64]impl.Table{}, map[int64]impl.Memo{}
	policies[impl.OK], tables[impl.OK], memos[impl.OK] = right.Policy, right.Table, right.Memo
	for _, name := range []string{"too many pieces", "sums that wrap to 2", "text too large"} {
		bad := badTables()[name]
		tables[bad.code] = bad.table
	}
	memos[impl.ErrLarge] = impl.Memo{Data: make([]byte, 241), Step: 4}
	memos[impl.ErrRange] = impl.Memo{Data: []byte("<b>x"), Step: 61}
	memos[impl.ErrForm] = impl.Memo{Data: []byte("<b>x"), Step: 4}
	return policies, tables, memos
}

// The fault of the policy ahead of the table's, that ahead of the memo's, each ahead of what does not fit: with every choice of faults.
func TestSessionsWithManyFaults(t *testing.T) {
	right := madeSession(policyOf("b", "", ""), "<b>x", 4)
	policies, tables, memos := partsWithFaults(right)
	if len(policies) != 4 || len(tables) != 4 || len(memos) != 4 {
		t.Fatalf("there are %d policies, %d tables, %d memos", len(policies), len(tables), len(memos))
	}
	for policyCode, p := range policies {
		for tableCode, x := range tables {
			for memoCode, m := range memos {
				for _, out := range []string{"<b>x</b>", "y"} {
					code := int64(impl.OK)
					if out == "y" {
						code = impl.ErrState
					}
					for _, one := range []int64{memoCode, tableCode, policyCode} {
						if one != impl.OK {
							code = one
						}
					}
					wantSessionFault(t, "many faults", impl.Session{Policy: p, Table: x, Memo: m, Out: []byte(out)}, code)
				}
			}
		}
	}
	wantSessionFault(t, "nothing at all", impl.Session{}, impl.ErrRange)
	wantSessionFault(t, "a step alone", impl.Session{Memo: impl.Memo{Step: 1}}, impl.ErrForm)
	wantSessionFault(t, "a memo of no bytes", impl.Session{Memo: impl.Memo{Step: 1, Checks: []impl.Check{{}}}}, impl.OK)
}

// OpenSession asks the policy ahead of the text, and that ahead of the step; one without a code is held against the document.
func TestCodesOfOpenSession(t *testing.T) {
	policies, _, _ := partsWithFaults(madeSession(policyOf("b", "", ""), "<b>x", 4))
	for policyCode, p := range policies {
		for _, size := range []int{0, 4, 240, 241, 2000} {
			for _, step := range append(oddSteps(), 60, 61) {
				code := policyCode
				if code == impl.OK && size > 240 {
					code = impl.ErrLarge
				}
				if code == impl.OK && (step < 1 || step > 60) {
					code = impl.ErrRange
				}
				text := strings.Repeat("<b>x", size/4+1)[:size]
				if got := impl.OpenSession(p, []byte(text), step); got.Code != code {
					t.Errorf("OpenSession of %d bytes by %d and %s: got %d, want %d", size, step, briefPolicy(p), got.Code, code)
				}
				if code != impl.OK || step == 60 {
					wantOpened(t, p, text, step)
				}
			}
		}
	}
	wantSession(t, "very many bytes", impl.OpenSession(impl.Policy{}, make([]byte, 20000000), 0), impl.SessionResult{Code: impl.ErrLarge})
	for code, list := range badPolicies() {
		for _, p := range list {
			wantSession(t, "OpenSession by "+briefPolicy(p), impl.OpenSession(p, []byte("x"), 1), impl.SessionResult{Code: code})
			wantSession(t, "OpenSession by "+briefPolicy(p), impl.OpenSession(p, make([]byte, 241), 0), impl.SessionResult{Code: code})
		}
	}
}

// changesOfAllCodes are changes of a text of so many bytes with each code that a change may have, and without one.
func changesOfAllCodes(size int64) []impl.Change {
	large := strings.Repeat("y", 241)
	return []impl.Change{
		inserting(0, "x"), deleting(0, size), replacing(0, size, "<b>"), obeying(policyOf("i", "", "")), compacting(),
		{}, {Kind: 6}, {Kind: 1, N: 1}, {Kind: 5, At: 1}, {Kind: 2, Put: []byte("x")}, inserting(0, large), inserting(-1, large), obeying(wrongPolicies()[impl.ErrText]), obeying(wrongPolicies()[impl.ErrMany]), obeying(wrongPolicies()[impl.ErrForm]),
		inserting(-1, "x"), inserting(size+1, ""), deleting(0, size+1), deleting(size, 1), replacing(math.MaxInt64, math.MaxInt64, "x"), inserting(0, large[:240]), replacing(size, 0, large[:240]),
	}
}

// The fault of the session is asked ahead of that of the change, whichever both are.
func TestSessionsWithAFaultAreNotChanged(t *testing.T) {
	right := madeSession(policyOf("b", "", ""), "<b>x", 4)
	policies, tables, memos := partsWithFaults(right)
	var faulty []impl.Session
	for _, p := range policies {
		faulty = append(faulty, impl.Session{Policy: p, Table: right.Table, Memo: right.Memo})
	}
	for _, x := range tables {
		faulty = append(faulty, impl.Session{Policy: right.Policy, Table: x, Memo: right.Memo, Status: 1})
	}
	for _, m := range memos {
		faulty = append(faulty, impl.Session{Policy: right.Policy, Table: right.Table, Memo: m, Status: 1})
	}
	for _, s := range append(faulty, impl.Session{}) {
		code := sessionFaultOf(s)
		if code == impl.OK {
			t.Errorf("%s has no fault", briefSession(s))
		}
		for _, c := range changesOfAllCodes(4) {
			wantSession(t, fmt.Sprintf("DoChange of %s by %s", briefSession(s), briefChange(c)), impl.DoChange(s, c), impl.SessionResult{Code: code})
		}
		for _, n := range []int{0, 1, 20, 21, 1000} {
			list := slices.Repeat(changes(inserting(0, "x")), n)
			wantRun(t, fmt.Sprintf("RunChanges of %s by %d", briefSession(s), n), impl.RunChanges(s, list), impl.ChangesResult{Code: code})
		}
	}
}

// wantChangeCode holds DoChange against a code with nothing beside it, and that against the document.
func wantChangeCode(t *testing.T, s impl.Session, c impl.Change, code int64) {
	t.Helper()
	if got := wantDone(t, s, c); got.Code != code {
		t.Errorf("DoChange of %s by %s: got %d, want %d", briefSession(s), briefChange(c), got.Code, code)
	}
}

// Of each session each code of a change; with none of them the change is held against the document.
func TestCodesOfChanges(t *testing.T) {
	count := map[int64]int{}
	for _, s := range sessionsOfAllKinds() {
		for _, c := range changesOfAllCodes(int64(len(s.Memo.Data))) {
			count[wantDone(t, s, c).Code]++
		}
	}
	for _, code := range []int64{impl.OK, impl.ErrForm, impl.ErrMany, impl.ErrRange, impl.ErrText, impl.ErrLarge} {
		if count[code] < 10 {
			t.Errorf("%d is told %d times alone: %v", code, count[code], count)
		}
	}
}

// The fault of the change is asked ahead of where it is.
func TestChangesWithTwoFaults(t *testing.T) {
	large := strings.Repeat("y", 241)
	for _, s := range sessionsOfAllKinds() {
		size := int64(len(s.Memo.Data))
		for _, at := range []int64{-1, size + 1, math.MaxInt64, math.MinInt64} {
			wantChangeCode(t, s, inserting(at, large), impl.ErrLarge)
			wantChangeCode(t, s, replacing(at, at, large), impl.ErrLarge)
			wantChangeCode(t, s, replacing(0, at, large), impl.ErrLarge)
			wantChangeCode(t, s, impl.Change{Kind: impl.DoInsert, At: at, N: 1, Put: []byte("x")}, impl.ErrForm)
			wantChangeCode(t, s, impl.Change{Kind: impl.DoDelete, At: at, N: 1, Put: []byte("x")}, impl.ErrForm)
			wantChangeCode(t, s, impl.Change{Kind: impl.DoPolicy, At: at}, impl.ErrForm)
			wantChangeCode(t, s, impl.Change{Kind: impl.DoCompact, N: at}, impl.ErrForm)
			wantChangeCode(t, s, impl.Change{Kind: 6, At: at, Put: []byte(large)}, impl.ErrForm)
		}
		// Out of the text, and too large for it.
		wantChangeCode(t, s, inserting(size+1, large[:240]), impl.ErrRange)
		wantChangeCode(t, s, replacing(size, 1, large[:240]), impl.ErrRange)
		wantChangeCode(t, s, replacing(0, -1, large[:240]), impl.ErrRange)
	}
}

// At and N below 0, behind the text, and so great that their sum would overflow.
func TestPlacesOfChanges(t *testing.T) {
	s := withTable(madeSession(policyOf("b", "", ""), "a<b>c", 2), scatteredTable("a<b>c", 2))
	for _, at := range oddPlaces(5) {
		wantDone(t, s, inserting(at, "y"))
		wantDone(t, s, inserting(at, ""))
		for _, n := range append(oddPlaces(5), 5-at, 6-at, -at) {
			got, want := impl.DoChange(s, deleting(at, n)), doneOf(s, deleting(at, n))
			wantSession(t, "DoChange by "+briefChange(deleting(at, n)), got, want)
			put := replacing(at, n, "yz")
			wantSession(t, "DoChange by "+briefChange(put), impl.DoChange(s, put), doneOf(s, put))
		}
	}
	for p, code := range map[[2]int64]int64{
		{0, 0}: impl.OK, {5, 0}: impl.OK, {0, 5}: impl.OK, {4, 1}: impl.OK, {3, 2}: impl.OK,
		{6, 0}: impl.ErrRange, {0, 6}: impl.ErrRange, {5, 1}: impl.ErrRange, {4, 2}: impl.ErrRange, {6, -1}: impl.ErrRange, {-1, 0}: impl.ErrRange, {-1, 1}: impl.ErrRange, {-1, 6}: impl.ErrRange, {0, -1}: impl.ErrRange, {5, -1}: impl.ErrRange,
		{math.MaxInt64, math.MaxInt64}: impl.ErrRange, {1, math.MaxInt64}: impl.ErrRange, {5, math.MaxInt64}: impl.ErrRange, {math.MaxInt64, 1}: impl.ErrRange, {math.MaxInt64, 0}: impl.ErrRange, {math.MaxInt64/2 + 1, math.MaxInt64/2 + 1}: impl.ErrRange,
		{math.MinInt64, math.MinInt64}: impl.ErrRange, {math.MinInt64, math.MaxInt64}: impl.ErrRange, {math.MaxInt64, math.MinInt64}: impl.ErrRange, {math.MinInt64, 0}: impl.ErrRange, {0, math.MinInt64}: impl.ErrRange, {-1, math.MinInt64}: impl.ErrRange,
	} {
		wantChangeCode(t, s, deleting(p[0], p[1]), code)
		wantChangeCode(t, s, replacing(p[0], p[1], "y"), code)
	}
}

// A delete and an insert at the beginning, at the end and behind it.
func TestChangesAtTheEnds(t *testing.T) {
	for _, s := range sessionsOfAllKinds() {
		size := int64(len(s.Memo.Data))
		room := int64(impl.OK)
		if size == 240 {
			room = impl.ErrLarge
		}
		for _, at := range []int64{0, size} {
			wantChangeCode(t, s, inserting(at, "y"), room)
			wantChangeCode(t, s, inserting(at, ""), impl.OK)
			wantChangeCode(t, s, deleting(at, 0), impl.OK)
			wantChangeCode(t, s, replacing(at, 0, ""), impl.OK)
		}
		wantChangeCode(t, s, deleting(0, size), impl.OK)
		wantChangeCode(t, s, replacing(0, size, "<b>y"), impl.OK)
		for _, c := range []impl.Change{inserting(size+1, "y"), inserting(size+1, ""), deleting(size+1, 0), deleting(size, 1), deleting(0, size+1), replacing(size+1, 0, "y"), replacing(size, 1, "y")} {
			wantChangeCode(t, s, c, impl.ErrRange)
		}
		if size > 0 {
			wantChangeCode(t, s, deleting(size-1, 1), impl.OK)
			wantDone(t, s, replacing(size-1, 1, "y"))
		}
	}
}

// A text of MaxText bytes, and of one more.
func TestSizesOfChangedTexts(t *testing.T) {
	for _, size := range []int{0, 1, 120, 239, 240} {
		s := madeSession(policyOf("b", "", ""), strings.Repeat("x", size), 60)
		for more, code := range map[int]int64{-1: impl.OK, 0: impl.OK, 1: impl.ErrLarge} {
			if n := 240 - size + more; n >= 0 {
				wantChangeCode(t, s, inserting(int64(size)/2, strings.Repeat("y", n)), code)
				wantChangeCode(t, s, replacing(int64(size), 0, strings.Repeat("y", n)), code)
			}
			if n := 240 - size + min(size, 7) + more; n >= 0 && n <= 240 {
				wantChangeCode(t, s, replacing(0, int64(min(size, 7)), strings.Repeat("y", n)), code)
			}
		}
	}
}

// crowded is a session with a table of n pieces: of three bytes the first one, of one byte the others.
func crowded(n int) impl.Session {
	table := wide(n)
	return withTable(madeSession(policyOf("b", "", ""), string(textOf(table)), 7), table)
}

// A table that has too many pieces: of a delete that cuts one, of an insert, and of both, of which the delete is first.
func TestChangesOfTooManyPieces(t *testing.T) {
	full := crowded(40)
	for _, c := range []impl.Change{inserting(3, "y"), inserting(1, "y"), inserting(42, "y"), inserting(0, "y"), deleting(1, 1), replacing(1, 1, "y"), replacing(1, 1, ""), replacing(0, 1, "y"), replacing(2, 1, "y"), replacing(5, 0, "y")} {
		wantChangeCode(t, full, c, impl.ErrMany)
	}
	// A piece that is gone makes room for the one that is put, and what cuts nothing needs none.
	for _, c := range []impl.Change{replacing(0, 3, "y"), replacing(3, 1, "y"), replacing(41, 1, "yz"), replacing(0, 42, "y"), replacing(1, 3, ""), replacing(1, 4, "y"), deleting(0, 1), deleting(2, 1), deleting(3, 1), deleting(1, 3), inserting(1, ""), deleting(1, 0), compacting(), obeying(impl.Policy{})} {
		wantChangeCode(t, full, c, impl.OK)
	}
	// What is gone within a piece makes none.
	wantChangeCode(t, full, replacing(1, 2, "y"), impl.ErrMany)
	wantChangeCode(t, full, replacing(1, 3, "y"), impl.OK)
	// That the text would be too large is asked ahead of the pieces, and where it is ahead of that.
	wantChangeCode(t, full, replacing(1, 1, strings.Repeat("y", 200)), impl.ErrLarge)
	wantChangeCode(t, full, inserting(3, strings.Repeat("y", 199)), impl.ErrLarge)
	wantChangeCode(t, full, inserting(3, strings.Repeat("y", 198)), impl.ErrMany)
	wantChangeCode(t, full, inserting(43, strings.Repeat("y", 199)), impl.ErrRange)
	wantChangeCode(t, full, deleting(1, 42), impl.ErrRange)
	for _, c := range []impl.Change{inserting(3, "y"), deleting(1, 1), replacing(2, 1, "y")} {
		wantChangeCode(t, crowded(39), c, impl.OK)
	}
	wantChangeCode(t, crowded(39), inserting(1, "y"), impl.ErrMany)
	wantChangeCode(t, crowded(39), replacing(1, 1, "y"), impl.ErrMany)
	wantChangeCode(t, crowded(38), inserting(1, "y"), impl.OK)
	wantChangeCode(t, crowded(38), replacing(1, 1, "y"), impl.OK)
}

// A More that has 2000 bytes takes no more, whatever is cut; in one piece there is room again.
func TestChangesOfAFullMore(t *testing.T) {
	s := madeSession(policyOf("b", "", ""), "<b>x", 4)
	for room, code := range map[int]int64{0: impl.ErrMany, 1: impl.ErrMany, 2: impl.OK} {
		s.Table = impl.Table{Base: []byte("<b>x"), More: filled(2000 - room), Pieces: []impl.Piece{{Size: 4}}}
		wantChangeCode(t, s, inserting(3, "yz"), code)
		wantChangeCode(t, s, replacing(0, 4, "yz"), code)
		wantChangeCode(t, s, replacing(0, 3, ""), impl.OK)
		wantChangeCode(t, s, deleting(3, 1), impl.OK)
		wantChangeCode(t, s, inserting(3, ""), impl.OK)
		wantChangeCode(t, s, inserting(0, strings.Repeat("y", 237)), impl.ErrLarge)
		got := wantChanges(t, s, changes(inserting(4, "yz"), compacting(), inserting(4, "yz")))
		if !slices.Equal(got.Codes, []int64{code, impl.OK, impl.OK}) {
			t.Errorf("RunChanges with room for %d: got %v", room, got.Codes)
		}
	}
}

// 20 changes are not too many, 21 are; of no changes the session is as it was.
func TestNumbersOfChangesThatRun(t *testing.T) {
	for _, s := range sessionsOfAllKinds() {
		for n, code := range map[int]int64{0: impl.OK, 1: impl.OK, 19: impl.OK, 20: impl.OK, 21: impl.ErrMany, 22: impl.ErrMany, 1000: impl.ErrMany} {
			got := wantChanges(t, s, slices.Repeat(changes(replacing(0, 0, "")), n))
			if got.Code != code || code == impl.OK && (len(got.Codes) != n || len(got.Patches) != n) {
				t.Errorf("RunChanges of %s by %d: got %d, %d codes, %d lists", briefSession(s), n, got.Code, len(got.Codes), len(got.Patches))
			}
			if code == impl.OK && !impl.SameSessions(got.Session, s) {
				t.Errorf("RunChanges of %s by %d that do nothing: got %s", briefSession(s), n, briefSession(got.Session))
			}
			// What is wrong with the changes is not asked ahead of how many there are.
			got = wantChanges(t, s, slices.Repeat(changes(impl.Change{Kind: 6}), n))
			if got.Code != code || slices.ContainsFunc(got.Codes, func(code int64) bool { return code != impl.ErrForm }) {
				t.Errorf("RunChanges of %s by %d that have a fault: got %d, %v", briefSession(s), n, got.Code, got.Codes)
			}
		}
		for _, none := range nothings[impl.Change]() {
			wantRun(t, "no changes", impl.RunChanges(s, none), impl.ChangesResult{Session: s})
		}
	}
}

// A change with a code turns nothing, has no Patches, and those behind it go on: the first one, one in the middle, the last one, and all of them.
func TestChangesWithACodeAmongOthers(t *testing.T) {
	s := madeSession(policyOf("b", "", ""), "<b>x", 4)
	right := changes(inserting(4, "y"), replacing(0, 0, "<i>"), obeying(policyOf("b i", "", "")), deleting(3, 3), compacting())
	whole := wantChanges(t, s, right)
	for _, wrong := range []impl.Change{{}, {Kind: 6}, inserting(99, "z"), deleting(0, -1), inserting(0, strings.Repeat("z", 241)), inserting(0, strings.Repeat("z", 240)), obeying(policyOf("b a", "", "")), {Kind: 5, N: 1}} {
		code := impl.DoChange(s, wrong).Code
		for place := range len(right) + 1 {
			got := wantChanges(t, s, slices.Insert(slices.Clone(right), place, wrong))
			want := impl.ChangesResult{Codes: slices.Insert(slices.Clone(whole.Codes), place, code), Patches: slices.Insert(slices.Clone(whole.Patches), place, nil), Session: whole.Session}
			wantRun(t, fmt.Sprintf("%s at %d", briefChange(wrong), place), got, want)
		}
		all := wantChanges(t, s, slices.Repeat(changes(wrong), 20))
		if code == impl.OK || !impl.SameSessions(all.Session, s) || !slices.Equal(all.Codes, slices.Repeat([]int64{code}, 20)) {
			t.Errorf("20 times %s: got %v", briefChange(wrong), all.Codes)
		}
	}
	if !slices.Equal(whole.Codes, make([]int64, 5)) || string(whole.Session.Out) != "<i>xy</i>" {
		t.Errorf("got %v, %q", whole.Codes, whole.Session.Out)
	}
}

// 20 lists of patches are not too many, 21 are, whatever they are; of no lists it is data, however large.
func TestNumbersOfLists(t *testing.T) {
	for n, code := range map[int]int64{0: impl.OK, 1: impl.OK, 19: impl.OK, 20: impl.OK, 21: impl.ErrMany, 22: impl.ErrMany, 1000: impl.ErrMany} {
		for _, list := range [][]impl.Patch{nil, {}, patches(patch(0, 0, "ab")), patches(patch(0, 1, "x"), patch(2, 1, ""))} {
			data := strings.Repeat("abc", 20)
			if got := wantPreview(t, data, slices.Repeat([][]impl.Patch{list}, n)); got.Code != code {
				t.Errorf("PreviewOf by %d lists: got %d", n, got.Code)
			}
		}
	}
	for _, size := range []int{0, 1, 240, 241, 2000, 2001, 20000000} {
		data := make([]byte, size)
		for _, none := range nothings[[]impl.Patch]() {
			wantTold(t, "PreviewOf by no lists", impl.PreviewOf(data, none), impl.BytesResult{Bytes: data})
		}
		code := int64(impl.OK)
		if size > 2000 {
			code = impl.ErrRange
		}
		if got := impl.PreviewOf(data, [][]impl.Patch{nil}); got.Code != code || code != impl.OK && len(got.Bytes) > 0 {
			t.Errorf("PreviewOf of %d bytes by a list of none: got %d", size, got.Code)
		}
	}
}

// A list with a fault behind lists that have none, and ahead of them; too many lists beside a fault.
func TestListsWithAFault(t *testing.T) {
	right := patches(patch(0, 0, "xy"), patch(1, 1, ""))
	for code, wrong := range map[int64][]impl.Patch{impl.ErrMany: manyPatches(21, ""), impl.ErrRange: patches(patch(-1, 0, "")), impl.ErrForm: patches(patch(2, 1, ""), patch(1, 0, "")), impl.ErrLarge: nil} {
		for n := range 21 {
			for _, place := range []int{0, n / 2, n - 1} {
				if place < 0 || n == 0 || code == impl.ErrLarge {
					continue
				}
				lists := slices.Repeat([][]impl.Patch{right}, n)
				lists[place] = wrong
				if got := wantPreview(t, "abcdef", lists); got.Code != code {
					t.Errorf("PreviewOf by %d lists, %s at %d: got %d, want %d", n, briefPatches(wrong), place, got.Code, code)
				}
			}
		}
		lists := append(slices.Repeat([][]impl.Patch{right}, 20), wrong)
		wantTold(t, "21 lists", impl.PreviewOf([]byte("abcdef"), lists), impl.BytesResult{Code: impl.ErrMany})
		slices.Reverse(lists)
		wantTold(t, "21 lists", impl.PreviewOf([]byte("abcdef"), lists), impl.BytesResult{Code: impl.ErrMany})
	}
	// Of two lists with a fault the first one tells.
	for _, both := range [][][]impl.Patch{{patches(patch(-1, 0, "")), manyPatches(21, "")}, {right, patches(patch(9, 0, "")), manyPatches(21, "")}} {
		wantTold(t, "two faults", impl.PreviewOf([]byte("abcdef"), both), impl.BytesResult{Code: impl.ErrRange})
	}
}

// Each list is held against what there is by then: not against data, nor against what there is at last.
func TestListsOfWhatThereIsByThen(t *testing.T) {
	for _, c := range []struct {
		data  string
		lists [][]impl.Patch
		code  int64
		out   string
	}{
		{"abc", [][]impl.Patch{patches(patch(3, 0, "def")), patches(patch(6, 0, "g"))}, impl.OK, "abcdefg"},
		{"abc", [][]impl.Patch{patches(patch(3, 0, "def")), patches(patch(5, 1, ""))}, impl.OK, "abcde"},
		{"abc", [][]impl.Patch{patches(patch(6, 0, "g")), patches(patch(3, 0, "def"))}, impl.ErrRange, ""},
		{"abc", [][]impl.Patch{patches(patch(0, 2, "")), patches(patch(0, 2, ""))}, impl.ErrRange, ""},
		{"abc", [][]impl.Patch{patches(patch(0, 2, "")), patches(patch(0, 1, "")), nil}, impl.OK, ""},
		{"abc", [][]impl.Patch{patches(patch(0, 3, "")), patches(patch(0, 0, "x")), patches(patch(1, 0, "y"))}, impl.OK, "xy"},
		{"abc", [][]impl.Patch{patches(patch(0, 3, "")), patches(patch(1, 0, "x"))}, impl.ErrRange, ""},
		{"", [][]impl.Patch{nil, patches(patch(0, 0, "x")), nil, patches(patch(0, 1, "y"))}, impl.OK, "y"},
	} {
		wantTold(t, shownLists(c.lists), wantPreview(t, c.data, c.lists), impl.BytesResult{Code: c.code, Bytes: []byte(c.out)})
	}
	// What comes out has 2000 bytes at most, of each list by itself.
	put := strings.Repeat("y", 240)
	for size, code := range map[int]int64{1520: impl.OK, 1521: impl.ErrLarge, 1760: impl.ErrLarge, 1761: impl.ErrLarge, 2000: impl.ErrLarge} {
		data := string(filled(size))
		for _, lists := range [][][]impl.Patch{{patches(patch(0, 0, put)), patches(patch(0, 0, put))}, {patches(patch(0, 0, put)), patches(patch(int64(size), 0, put)), patches(patch(0, 240, ""))}} {
			if got := wantPreview(t, data, lists); got.Code != code {
				t.Errorf("PreviewOf of %d bytes: got %d, want %d", size, got.Code, code)
			}
		}
		wantTold(t, "cut first", wantPreview(t, data, [][]impl.Patch{patches(patch(0, int64(size), "")), patches(patch(0, 0, put))}), impl.BytesResult{Bytes: []byte(put)})
	}
}

// hugeSessions have much of one thing, each in a session that is right but for that.
func hugeSessions() map[string]impl.Session {
	right := madeSession(policyOf("a b", "", ""), "a<b c=\"d\">", 3)
	many := make([]byte, 2000000)
	all := map[string]impl.Session{}
	for what, m := range hugeMemos() {
		s := right
		s.Memo = m
		all[what] = s
	}
	add := func(what string, turn func(s *impl.Session)) {
		s := right
		turn(&s)
		all[what] = s
	}
	add("much Out", func(s *impl.Session) { s.Out = many })
	add("much Base", func(s *impl.Session) { s.Table.Base = many })
	add("much More", func(s *impl.Session) { s.Table.More = many })
	add("many Pieces", func(s *impl.Session) { s.Table.Pieces = make([]impl.Piece, 300000) })
	for number, what := range []string{"Tags", "Attrs", "Schemes"} {
		add("many "+what, func(s *impl.Session) { s.Policy = withList(s.Policy, number, make([]string, 300000)) })
		add("a long word in "+what, func(s *impl.Session) { s.Policy = withList(s.Policy, number, []string{string(many)}) })
	}
	for name, bad := range badTables() {
		add(name, func(s *impl.Session) { s.Table = bad.table })
	}
	return all
}

// P1: nothing panics, and all ends, whatever a session is.
func TestHugeSessionsHaveTheirFault(t *testing.T) {
	for what, s := range hugeSessions() {
		code := impl.SessionFault(s)
		if code == impl.OK {
			t.Errorf("SessionFault of one with %s: got none", what)
		}
		for _, c := range []impl.Change{{}, inserting(0, "x"), deleting(math.MaxInt64, math.MaxInt64), obeying(impl.Policy{}), obeying(s.Policy), compacting(), {Kind: impl.DoReplace, Put: s.Out}} {
			if got := impl.DoChange(s, c); got.Code != code || got.Read != 0 || len(got.Patches) > 0 || !impl.SameSessions(got.Session, impl.Session{}) {
				t.Errorf("DoChange of one with %s by %s: got %d", what, briefChange(c), got.Code)
			}
		}
		if got := impl.RunChanges(s, make([]impl.Change, 300000)); got.Code != code || len(got.Codes) > 0 || len(got.Patches) > 0 || !impl.SameSessions(got.Session, impl.Session{}) {
			t.Errorf("RunChanges of one with %s: got %d", what, got.Code)
		}
		if !impl.SameSessions(s, s) || impl.SameSessions(s, impl.Session{}) || impl.SameSessions(impl.Session{}, s) {
			t.Errorf("SameSessions of one with %s", what)
		}
		if opened := impl.OpenSession(s.Policy, s.Memo.Data, s.Memo.Step); opened.Code == impl.OK && impl.SessionFault(opened.Session) != impl.OK {
			t.Errorf("OpenSession of what has %s: what is opened has a fault", what)
		}
	}
}

// P1: nothing panics, and all ends, whatever changes and lists of patches are, and however many there are.
func TestHugeChanges(t *testing.T) {
	s := madeSession(policyOf("b", "", ""), "<b>x", 4)
	huge := make([]byte, 20000000)
	wantChangeFault(t, impl.Change{Kind: impl.DoInsert, Put: huge}, impl.ErrLarge)
	wantChangeFault(t, impl.Change{Kind: impl.DoDelete, Put: huge}, impl.ErrForm)
	wantChangeFault(t, obeying(impl.Policy{Tags: make([]string, 1000000)}), impl.ErrMany)
	wantSession(t, "a huge Put", impl.DoChange(s, impl.Change{Kind: impl.DoReplace, Put: huge}), impl.SessionResult{Code: impl.ErrLarge})
	wantRun(t, "very many changes", impl.RunChanges(s, make([]impl.Change, 1000000)), impl.ChangesResult{Code: impl.ErrMany})
	wantTold(t, "very many lists", impl.PreviewOf(huge, make([][]impl.Patch, 1000000)), impl.BytesResult{Code: impl.ErrMany})
	wantTold(t, "very many patches", impl.PreviewOf([]byte("x"), [][]impl.Patch{make([]impl.Patch, 1000000)}), impl.BytesResult{Code: impl.ErrMany})
	wantTold(t, "a huge Put", impl.PreviewOf([]byte("x"), [][]impl.Patch{{{Put: huge}}}), impl.BytesResult{Code: impl.ErrMany})
	wantTold(t, "huge data", impl.PreviewOf(huge, [][]impl.Patch{nil, nil}), impl.BytesResult{Code: impl.ErrRange})
}
