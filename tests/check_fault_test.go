package tests

import (
	"bytes"
	"fmt"
	"math"
	"slices"
	"strings"
	"testing"

	"loop.example/g00606/impl"
)

// oddSteps are steps within their bounds, at them and out of them.
func oddSteps() []int64 {
	return append(oddNumbers(), -60, -2, -1, 0, 1, 2, 30, 59, 60, 61, 62, 120, 240, 241, 256+1, 256+60, 1<<32+1, math.MaxInt64, math.MinInt64, math.MinInt64+1)
}

func TestStepsOfAMemo(t *testing.T) {
	for _, step := range oddSteps() {
		for _, text := range []string{"", "x", "a<b", "a<b>c&lt;", strings.Repeat("x", 240)} {
			want := impl.MemoResult{Code: impl.ErrRange}
			if step >= 1 && step <= 60 {
				want = memoOf(text, step)
			}
			wantMemo(t, briefNew(text, step), impl.NewMemo([]byte(text), step), want)
		}
	}
	for step, code := range map[int64]int64{-1: impl.ErrRange, 0: impl.ErrRange, 1: impl.OK, 60: impl.OK, 61: impl.ErrRange} {
		if got := impl.NewMemo([]byte("a<b"), step); got.Code != code {
			t.Errorf("NewMemo by %d: got code %d", step, got.Code)
		}
	}
}

// Data that is too large is told ahead of a step that is out of bounds.
func TestSizesOfAMemo(t *testing.T) {
	for _, one := range []string{"x", "<", "&", "\x00"} {
		for _, size := range []int{0, 1, 239, 240} {
			wantNew(t, strings.Repeat(one, size), 60)
			wantMemo(t, "a step of 61", impl.NewMemo(bytes.Repeat([]byte(one), size), 61), impl.MemoResult{Code: impl.ErrRange})
		}
		for _, size := range []int{241, 242, 255, 256, 257, 480, 2000, 100000} {
			data := bytes.Repeat([]byte(one), size)
			for _, step := range oddSteps() {
				wantMemo(t, fmt.Sprintf("NewMemo of %d bytes by %d", size, step), impl.NewMemo(data, step), impl.MemoResult{Code: impl.ErrLarge})
			}
		}
	}
	wantMemo(t, "NewMemo of very many bytes", impl.NewMemo(make([]byte, 20000000), 0), impl.MemoResult{Code: impl.ErrLarge})
}

// turnedMemo is a memo one thing of which was turned, and what that was.
type turnedMemo struct {
	what string
	memo impl.Memo
}

// turns collects copies of a memo, each with one thing turned.
type turns struct {
	of  impl.Memo
	all []turnedMemo
}

func (s *turns) add(what string, turn func(m *impl.Memo)) {
	m := copiedMemo(s.of)
	turn(&m)
	s.all = append(s.all, turnedMemo{what, m})
}

// bytesTurned are lists that differ from one in one byte: turned, gone, or put.
func bytesTurned(data []byte) [][]byte {
	lists := [][]byte{append(slices.Clone(data), 'x'), append(slices.Clone(data), '<'), append([]byte("<"), data...)}
	for i := range data {
		other := slices.Clone(data)
		other[i] ^= 1
		lists = append(lists, other, slices.Delete(slices.Clone(data), i, i+1))
	}
	return lists
}

func (s *turns) addData() {
	for _, data := range bytesTurned(s.of.Data) {
		s.add("a byte of Data", func(m *impl.Memo) { m.Data = data })
	}
	if len(s.of.Data) > 0 {
		s.add("Data gone", func(m *impl.Memo) { m.Data = nil })
	}
	for _, step := range []int64{s.of.Step + 1, s.of.Step - 1, s.of.Step * 2, 1, 60, 0, 61, -s.of.Step, math.MaxInt64, math.MinInt64} {
		if step != s.of.Step {
			s.add(fmt.Sprintf("Step %d", step), func(m *impl.Memo) { m.Step = step })
		}
	}
}

func (s *turns) addHeld() {
	for _, held := range bytesTurned(s.of.Held) {
		s.add("Held", func(m *impl.Memo) { m.Held = held })
	}
	for i, c := range s.of.Checks {
		for _, held := range bytesTurned(c.Held) {
			s.add("a check's Held", func(m *impl.Memo) { m.Checks[i].Held = held })
		}
	}
}

func (s *turns) addTokens() {
	for i, token := range s.of.Tokens {
		s.add("a token's Kind", func(m *impl.Memo) { m.Tokens[i].Kind++ })
		s.add("a token's Kind", func(m *impl.Memo) { m.Tokens[i].Kind = 0 })
		s.add("a token's Byte", func(m *impl.Memo) { m.Tokens[i].Byte++ })
		s.add("a token's Byte", func(m *impl.Memo) { m.Tokens[i].Byte += 256 })
		s.add("a token's Name", func(m *impl.Memo) { m.Tokens[i].Name += "x" })
		s.add("a token's Shut", func(m *impl.Memo) { m.Tokens[i].Shut = !m.Tokens[i].Shut })
		s.add("an attribute more", func(m *impl.Memo) { m.Tokens[i].Attrs = append(m.Tokens[i].Attrs, attr("z", "")) })
		s.add("a token less", func(m *impl.Memo) { m.Tokens = slices.Delete(m.Tokens, i, i+1) })
		s.add("a token twice", func(m *impl.Memo) { m.Tokens = slices.Insert(m.Tokens, i, token) })
		for j := range token.Attrs {
			s.add("an attribute's Name", func(m *impl.Memo) { m.Tokens[i].Attrs[j].Name += "x" })
			s.add("an attribute's Value", func(m *impl.Memo) { m.Tokens[i].Attrs[j].Value = append(m.Tokens[i].Attrs[j].Value, 'x') })
			s.add("an attribute less", func(m *impl.Memo) { m.Tokens[i].Attrs = slices.Delete(m.Tokens[i].Attrs, j, j+1) })
		}
		if len(token.Attrs) > 1 {
			s.add("attributes in another order", func(m *impl.Memo) { slices.Reverse(m.Tokens[i].Attrs) })
		}
	}
	s.add("a token more", func(m *impl.Memo) { m.Tokens = append(m.Tokens, note()) })
	s.add("a token more", func(m *impl.Memo) { m.Tokens = append(m.Tokens, impl.Token{}) })
	if len(s.of.Held) > 0 {
		s.add("tokens of what is held, too", func(m *impl.Memo) { m.Tokens = append(m.Tokens, asBytes(string(m.Held))...) })
	}
}

func (s *turns) addChecks() {
	for i, c := range s.of.Checks {
		for _, n := range []int64{-1, 1, 60, math.MinInt64, 1 << 32} {
			s.add("a check's At", func(m *impl.Memo) { m.Checks[i].At += n })
			s.add("a check's Count", func(m *impl.Memo) { m.Checks[i].Count += n })
		}
		s.add("a check less", func(m *impl.Memo) { m.Checks = slices.Delete(m.Checks, i, i+1) })
		s.add("a check twice", func(m *impl.Memo) { m.Checks = slices.Insert(m.Checks, i, c) })
		for j := range i {
			s.add("two checks that changed places", func(m *impl.Memo) { m.Checks[i], m.Checks[j] = m.Checks[j], m.Checks[i] })
		}
	}
	next := int64(len(s.of.Checks)) * s.of.Step
	s.add("a check more", func(m *impl.Memo) {
		m.Checks = append(m.Checks, check(next, int64(len(m.Tokens)), string(m.Held)))
	})
	s.add("a check at the end", func(m *impl.Memo) {
		m.Checks = append(m.Checks, check(int64(len(m.Data)), int64(len(m.Tokens)), string(m.Held)))
	})
	s.add("a check of nothing", func(m *impl.Memo) { m.Checks = append(m.Checks, impl.Check{}) })
	s.add("no checks", func(m *impl.Memo) { m.Checks = nil })
}

// memosOfAllKinds have tokens of every kind, something held behind all and at checks, and neither.
func memosOfAllKinds() []impl.Memo {
	return []impl.Memo{
		madeMemo("", 1), madeMemo("", 60), madeMemo("x", 1), madeMemo("<", 1), madeMemo("ab<b>c", 2), madeMemo("a<b", 3), madeMemo("a<b", 2), madeMemo("a&lt;&am", 4),
		madeMemo("<a b=\"1\" c=\"&lt;\"/>x</a><!-- n -->&#65;<i", 5), madeMemo("<x<i>&b<!--", 1), madeMemo("xxxxx", 2),
	}
}

// turnsOf are all memos that differ from one in one thing.
func turnsOf(m impl.Memo) []turnedMemo {
	s := turns{of: m}
	s.addData()
	s.addHeld()
	s.addTokens()
	s.addChecks()
	return s.all
}

// A memo one thing of which was turned has a fault, but where that leads to the right memo of another text or step.
func TestMemosWithOneThingTurned(t *testing.T) {
	for _, m := range memosOfAllKinds() {
		wantMemoFault(t, "nothing turned", m, impl.OK)
		for _, turned := range turnsOf(m) {
			code := memoFaultOf(turned.memo)
			if kept := strings.HasPrefix(turned.what, "Step") || strings.Contains(turned.what, "Data"); code != impl.ErrForm && !kept {
				t.Errorf("%s: the fault would be %d", turned.what, code)
			}
			wantMemoFault(t, turned.what, turned.memo, code)
		}
	}
}

// The codes of NewMemo are asked ahead of the memo's own.
func TestMemosWithTwoFaults(t *testing.T) {
	large := strings.Repeat("x", 241)
	for _, m := range memosOfAllKinds() {
		for _, step := range []int64{0, 61, -1, math.MinInt64, math.MaxInt64} {
			other := copiedMemo(m)
			other.Step = step
			wantMemoFault(t, "a wrong step", other, impl.ErrRange)
			other.Held = []byte("wrong")
			wantMemoFault(t, "a wrong step and Held", other, impl.ErrRange)
			other.Data = []byte(large)
			wantMemoFault(t, "large, a wrong step and Held", other, impl.ErrLarge)
		}
		other := copiedMemo(m)
		other.Data = []byte(large)
		wantMemoFault(t, "large", other, impl.ErrLarge)
		other.Tokens, other.Checks = asBytes(large), nil
		wantMemoFault(t, "large and no checks", other, impl.ErrLarge)
	}
	wantMemoFault(t, "nothing at all", impl.Memo{}, impl.ErrRange)
	wantMemoFault(t, "a step alone", impl.Memo{Step: 1}, impl.ErrForm)
	wantMemoFault(t, "no bytes, and their check", impl.Memo{Step: 1, Checks: []impl.Check{{}}}, impl.OK)
	full := madeMemo(strings.Repeat("x", 240), 60)
	wantMemoFault(t, "as many bytes as there may be", full, impl.OK)
	full.Data, full.Tokens = append(full.Data, 'x'), append(full.Tokens, byteToken('x'))
	wantMemoFault(t, "one byte more than there may be", full, impl.ErrLarge)
}

// What of Data is in no token and at no check may be another: the memo is right of that, too.
func TestMemosThatAreRightOfAnotherText(t *testing.T) {
	for _, texts := range [][2]string{
		{"<!-- x -->", "<!-- y -->"}, {"<!-- x -->", "<!-- \" -->"}, {"<a b=\"1\" b=\"2\">", "<a b=\"1\" b=\"3\">"}, {"&lt;x", "&#60;x"}, {"<b >", "<b>"},
	} {
		m := madeMemo(texts[0], 60)
		m.Data = []byte(texts[1])
		wantMemoFault(t, "another text", m, impl.OK)
	}
	// The check at 9 is within the note, and knows its bytes.
	m := madeMemo("<!-- x -->", 9)
	m.Data = []byte("<!-- y -->")
	wantMemoFault(t, "another note", m, impl.ErrForm)
	// Steps that are all greater than Data have the same checks.
	m = madeMemo("ab<b>c", 7)
	m.Step = 60
	wantMemoFault(t, "another step", m, impl.OK)
	m.Step = 6
	wantMemoFault(t, "a step with a check at the end", m, impl.ErrForm)
}

// What the tokens and checks of a step apart say of all of it is not enough: each is asked.
func TestMemosOfAnotherReading(t *testing.T) {
	m := madeMemo("a<b", 3)
	m.Tokens, m.Held = asBytes("a<b"), nil
	wantMemoFault(t, "what is held let go", m, impl.ErrForm)
	m = madeMemo("a<b>&lt;", 4)
	m.Tokens = asBytes("a<b>&lt;")
	wantMemoFault(t, "bytes alone", m, impl.ErrForm)
	m = madeMemo("a<b>&lt;", 4)
	m.Checks[1].Count, m.Checks[1].Held = 1, []byte("<b>")
	wantMemoFault(t, "a check that holds a tag", m, impl.ErrForm)
	m = madeMemo("abcdef", 2)
	m.Checks = madeMemo("abcdef", 3).Checks
	wantMemoFault(t, "checks of another step", m, impl.ErrForm)
	m = madeMemo("abcdef", 2)
	m.Checks = madeMemo("abcdefg", 2).Checks
	wantMemoFault(t, "checks of a longer text", m, impl.OK)
}

// Places are asked behind the memo's fault, and ahead of all else.
func TestPlacesOfAMemo(t *testing.T) {
	for _, m := range memosOfAllKinds() {
		size := int64(len(m.Data))
		for at, code := range map[int64]int64{-1: impl.ErrRange, 0: impl.OK, size: impl.OK, size + 1: impl.ErrRange, size + m.Step: impl.ErrRange, -m.Step: impl.ErrRange, math.MinInt64: impl.ErrRange, math.MaxInt64: impl.ErrRange} {
			wantLast(t, m, at)
			if got := impl.LastCheck(m, at); got.Code != code {
				t.Errorf("LastCheck of %s at %d: got code %d, want %d", briefMemo(m), at, got.Code, code)
			}
		}
		wantLast(t, m, append(oddNumbers(), allPlaces(len(m.Data))...)...)
		wrong := copiedMemo(m)
		wrong.Checks = append(wrong.Checks, impl.Check{})
		for _, at := range append(oddNumbers(), -1, 0, size, size+1) {
			wantCheck(t, "LastCheck of a memo with a fault", impl.LastCheck(wrong, at), impl.CheckResult{Code: impl.ErrForm})
		}
	}
}

// hugeMemos have faults of every kind, with lists that are very large and numbers that are out of all bounds.
func hugeMemos() map[string]impl.Memo {
	many := make([]byte, 2000000)
	right := madeMemo("a<b c=\"d\">", 3)
	wide := func(turn func(m *impl.Memo)) impl.Memo {
		m := copiedMemo(right)
		turn(&m)
		return m
	}
	return map[string]impl.Memo{
		"much Data":          wide(func(m *impl.Memo) { m.Data = many }),
		"much Held":          wide(func(m *impl.Memo) { m.Held = many }),
		"many Tokens":        wide(func(m *impl.Memo) { m.Tokens = make([]impl.Token, 300000) }),
		"many Checks":        wide(func(m *impl.Memo) { m.Checks = make([]impl.Check, 300000) }),
		"a check with much":  wide(func(m *impl.Memo) { m.Checks[1].Held = many }),
		"a large value":      wide(func(m *impl.Memo) { m.Tokens[1].Attrs[0].Value = many }),
		"many attributes":    wide(func(m *impl.Memo) { m.Tokens[1].Attrs = make([]impl.Attr, 300000) }),
		"a long name":        wide(func(m *impl.Memo) { m.Tokens[1].Name = string(many) }),
		"a check far away":   wide(func(m *impl.Memo) { m.Checks[1].At = math.MaxInt64 }),
		"a check far ahead":  wide(func(m *impl.Memo) { m.Checks[1].At = math.MinInt64 }),
		"a count too great":  wide(func(m *impl.Memo) { m.Checks[1].Count = math.MaxInt64 }),
		"a count below 0":    wide(func(m *impl.Memo) { m.Checks[1].Count = math.MinInt64 }),
		"a kind of its own":  wide(func(m *impl.Memo) { m.Tokens[0].Kind = math.MinInt64 }),
		"a byte of its own":  wide(func(m *impl.Memo) { m.Tokens[0].Byte = math.MaxInt64 }),
		"Held that is wrong": wide(func(m *impl.Memo) { m.Held = []byte("x") }),
	}
}

// P1: nothing panics, and all ends, whatever a memo is.
func TestHugeMemosHaveTheirFault(t *testing.T) {
	for what, m := range hugeMemos() {
		code := int64(impl.ErrForm)
		if what == "much Data" {
			code = impl.ErrLarge
		}
		if got := impl.MemoFault(m); got != code {
			t.Errorf("MemoFault of one with %s: got %d", what, got)
		}
		for _, at := range oddNumbers() {
			wantCheck(t, "LastCheck of one with "+what, impl.LastCheck(m, at), impl.CheckResult{Code: code})
		}
		wantNoLex(t, "TokensOf of one with "+what, impl.TokensOf(m), code)
		if !impl.SameMemos(m, m) || impl.SameMemos(m, impl.Memo{}) || impl.SameMemos(impl.Memo{}, m) {
			t.Errorf("SameMemos of one with %s", what)
		}
	}
}

// SameMemos tells two apart that differ in one thing, with faults and without them.
func TestSameMemos(t *testing.T) {
	kinds := memosOfAllKinds()
	for i, a := range kinds {
		for j, b := range kinds {
			wantSameMemos(t, "of all kinds", a, copiedMemo(b), i == j)
		}
		for _, turned := range turnsOf(a) {
			wantSameMemos(t, turned.what, a, turned.memo, false)
			wantSameMemos(t, turned.what+", copied", turned.memo, copiedMemo(turned.memo), true)
		}
	}
}

// Two memos that have a fault are the same only if all is.
func TestSameMemosWithFaults(t *testing.T) {
	var all []impl.Memo
	for _, m := range memosOfAllKinds()[:8] {
		for i, turned := range turnsOf(m) {
			if i%3 == 0 {
				all = append(all, turned.memo)
			}
		}
	}
	all = append(all, impl.Memo{})
	var texts []string
	for _, m := range all {
		texts = append(texts, shownMemo(m))
	}
	for i, a := range all {
		for j, b := range all {
			if impl.SameMemos(a, b) != (texts[i] == texts[j]) {
				t.Errorf("SameMemos of %s and %s: want %v", texts[i], texts[j], texts[i] == texts[j])
			}
		}
	}
}
