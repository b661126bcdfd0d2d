package tests

import (
	"fmt"
	"strings"
	"testing"

	"loop.example/g00606/impl"
)

// wantChecks holds the memo of a text against checks that are told, and against what is held behind all of it.
func wantChecks(t *testing.T, text string, step int64, held string, checks ...impl.Check) {
	t.Helper()
	m := wantNew(t, text, step)
	want := impl.Memo{Data: []byte(text), Step: step, Tokens: m.Tokens, Held: []byte(held), Checks: checks}
	if shownMemo(m) != shownMemo(want) {
		t.Errorf("%s: got %s, want %s", briefNew(text, step), briefMemo(m), briefMemo(want))
	}
	wantLast(t, m, allPlaces(len(text))...)
}

// The memo of a text, all of it told.
func TestAMemoThatIsTold(t *testing.T) {
	got := impl.NewMemo([]byte("ab<b>c"), 2)
	want := impl.Memo{
		Data: []byte("ab<b>c"), Step: 2, Tokens: joined(asBytes("ab"), list(start("b")), asBytes("c")),
		Checks: []impl.Check{check(0, 0, ""), check(2, 2, ""), check(4, 2, "<b"), check(6, 4, "")},
	}
	wantMemo(t, "NewMemo", got, impl.MemoResult{Read: 6, Memo: want})
	for at, place := range []int64{0, 0, 2, 2, 4, 4, 6} {
		if last := impl.LastCheck(want, int64(at)); last.Code != impl.OK || last.Check.At != place {
			t.Errorf("LastCheck at %d: got %d, %s, want the check at %d", at, last.Code, shownCheck(last.Check), place)
		}
	}
	wantCheck(t, "LastCheck at 5", impl.LastCheck(want, 5), impl.CheckResult{Check: check(4, 2, "<b")})
	wantLexed(t, "TokensOf", impl.TokensOf(want), lexed{tokens: want.Tokens})

	open := impl.NewMemo([]byte("a<b"), 3)
	held := impl.Memo{Data: []byte("a<b"), Step: 3, Tokens: asBytes("a"), Held: []byte("<b"), Checks: []impl.Check{check(0, 0, ""), check(3, 1, "<b")}}
	wantMemo(t, "NewMemo", open, impl.MemoResult{Read: 3, Memo: held})
	wantLexed(t, "TokensOf", impl.TokensOf(held), lexed{tokens: asBytes("a<b")})
}

// Data whose number of bytes Step divides has a check at its end, other Data has none there.
func TestChecksAtTheEnd(t *testing.T) {
	wantChecks(t, "abcd", 2, "", check(0, 0, ""), check(2, 2, ""), check(4, 4, ""))
	wantChecks(t, "abcde", 2, "", check(0, 0, ""), check(2, 2, ""), check(4, 4, ""))
	wantChecks(t, "abcdef", 3, "", check(0, 0, ""), check(3, 3, ""), check(6, 6, ""))
	wantChecks(t, "abc&", 2, "&", check(0, 0, ""), check(2, 2, ""), check(4, 3, "&"))
	wantChecks(t, "abcd&", 2, "&", check(0, 0, ""), check(2, 2, ""), check(4, 4, ""))
	for _, size := range []int{59, 60, 61, 119, 120, 121, 239, 240} {
		m := wantNew(t, strings.Repeat("x", size), 60)
		last := m.Checks[len(m.Checks)-1]
		if last.At != int64(size/60*60) || (last.At == int64(size)) != (size%60 == 0) || last.Count != last.At {
			t.Errorf("of %d bytes the last check is %s", size, shownCheck(last))
		}
		wantLast(t, m, allPlaces(size)...)
	}
}

// Data with no bytes has one check, at 0, whatever the step is.
func TestChecksOfNoData(t *testing.T) {
	for step := range int64(60) {
		wantChecks(t, "", step+1, "", check(0, 0, ""))
		for _, nothing := range [][]byte{nil, {}, make([]byte, 0, 9)} {
			got := impl.NewMemo(nothing, step+1)
			wantMemo(t, "NewMemo of nothing", got, impl.MemoResult{Memo: impl.Memo{Step: step + 1, Checks: []impl.Check{{}}}})
			wantLexed(t, "TokensOf of nothing", impl.TokensOf(got.Memo), lexed{})
		}
	}
}

// With a Step that is greater than Data the check at 0 is the only one; with one that is just as great there is one at the end.
func TestStepsGreaterThanData(t *testing.T) {
	for size := range 60 {
		text := strings.Repeat("a", max(size-1, 0)) + strings.Repeat("<", min(size, 1))
		held := strings.Repeat("<", min(size, 1))
		for step := size + 1; step <= 60; step++ {
			wantChecks(t, text, int64(step), held, check(0, 0, ""))
		}
	}
	for _, size := range []int{1, 2, 59, 60} {
		text := strings.Repeat("a", size-1) + "&"
		wantChecks(t, text, int64(size), "&", check(0, 0, ""), check(int64(size), int64(size-1), "&"))
	}
}

// A Step of 1 has a check at every place; there are as many as there may be of MaxText bytes.
func TestAStepOfOne(t *testing.T) {
	wantChecks(t, "a<b>&lt;c", 1, "",
		check(0, 0, ""), check(1, 1, ""), check(2, 1, "<"), check(3, 1, "<b"), check(4, 2, ""),
		check(5, 2, "&"), check(6, 2, "&l"), check(7, 2, "&lt"), check(8, 3, ""), check(9, 4, ""))
	for _, text := range []string{strings.Repeat("x", 240), filledUp(240, "<!--", "x", ""), filledUp(240, strings.Repeat("y", 81), "<", ""), strings.Repeat("<b>", 80)} {
		if m := wantNew(t, text, 1); len(m.Checks) != 241 {
			t.Errorf("%.20q: %d checks", text, len(m.Checks))
		}
	}
}

// Checks within a tag, a reference and a note, and in quotes.
func TestWhatIsHeldAtACheck(t *testing.T) {
	wantChecks(t, "xx<a href=\"y\" t=\"\"/>z", 5, "", check(0, 0, ""), check(5, 2, "<a "), check(10, 2, "<a href="), check(15, 2, "<a href=\"y\" t"), check(20, 3, ""))
	wantChecks(t, "ab</abcdefgh>", 4, "", check(0, 0, ""), check(4, 2, "</"), check(8, 2, "</abcd"), check(12, 2, "</abcdefgh"))
	wantChecks(t, "<b></b>", 3, "", check(0, 0, ""), check(3, 1, ""), check(6, 1, "</b"))
	wantChecks(t, "&quot;&amp;", 2, "", check(0, 0, ""), check(2, 0, "&q"), check(4, 0, "&quo"), check(6, 1, ""), check(8, 1, "&a"), check(10, 1, "&amp"))
	wantChecks(t, "&#255;&#0;", 3, "", check(0, 0, ""), check(3, 0, "&#2"), check(6, 1, ""), check(9, 1, "&#0"))
	wantChecks(t, "a<!-- <b>\" -->c", 3, "", check(0, 0, ""), check(3, 1, "<!"), check(6, 1, "<!-- "), check(9, 1, "<!-- <b>"), check(12, 1, "<!-- <b>\" -"), check(15, 3, ""))
	wantChecks(t, "<!-->-->", 5, "", check(0, 0, ""), check(5, 0, "<!-->"))
	wantChecks(t, "<a b=\"<>&lt;\">", 7, "", check(0, 0, ""), check(7, 0, "<a b=\"<"), check(14, 1, ""))
	wantChecks(t, "<a b=\"<>&lt;\">", 8, "", check(0, 0, ""), check(8, 0, "<a b=\"<>"))
	wantChecks(t, "<a \"\"<b>", 4, "", check(0, 0, ""), check(4, 0, "<a \""), check(8, 6, ""))
}

// What is let go, and what is fed again behind it, at a check and on both sides of it.
func TestWhatIsLetGoAtACheck(t *testing.T) {
	wantChecks(t, "<x<i>", 1, "", check(0, 0, ""), check(1, 0, "<"), check(2, 0, "<x"), check(3, 2, "<"), check(4, 2, "<i"), check(5, 3, ""))
	wantChecks(t, "&lt<b>", 3, "", check(0, 0, ""), check(3, 0, "&lt"), check(6, 4, ""))
	wantChecks(t, "&lt&lt;", 4, "", check(0, 0, ""), check(4, 3, "&"))
	wantChecks(t, "&lt x", 1, "", check(0, 0, ""), check(1, 0, "&"), check(2, 0, "&l"), check(3, 0, "&lt"), check(4, 4, ""), check(5, 5, ""))
	wantChecks(t, "&abcdef", 2, "", check(0, 0, ""), check(2, 0, "&a"), check(4, 0, "&abc"), check(6, 6, ""))
	wantChecks(t, "&abcdef", 5, "", check(0, 0, ""), check(5, 0, "&abcd"))
	wantChecks(t, "&bad;&&", 5, "&", check(0, 0, ""), check(5, 5, ""))
	wantChecks(t, "<B><>x", 2, "", check(0, 0, ""), check(2, 0, "<B"), check(4, 3, "<"), check(6, 6, ""))
	wantChecks(t, "<<<<", 2, "<", check(0, 0, ""), check(2, 1, "<"), check(4, 3, "<"))
	wantChecks(t, "&&&&", 2, "&", check(0, 0, ""), check(2, 1, "&"), check(4, 3, "&"))
}

// At the 160th byte what is held is let go: up to the byte ahead of it a check has all of it, behind it none.
func TestChecksAtTheBoundOfWhatIsHeld(t *testing.T) {
	for _, c := range [][2]string{{"<", "x"}, {"<b", " "}, {"<b \"", ">"}, {"<b \"", "<"}, {"<!--", "x"}, {"<!--", ">"}, {"<!--", "\""}, {"<", "&"}} {
		text := filledUp(240, c[0], c[1], "")
		m := wantNew(t, text, 1)
		for at, want := range map[int]impl.Check{158: check(158, 0, text[:158]), 159: check(159, 0, text[:159]), 160: check(160, 160, "")} {
			if shownCheck(m.Checks[at]) != shownCheck(want) {
				t.Errorf("%.10q: at %d the check is %s", text, at, shownCheck(m.Checks[at]))
			}
		}
		// Ones that stand on both sides of that byte, at it, and within what begins ahead of it.
		for _, step := range []int64{2, 3, 10, 20, 32, 40, 53, 60} {
			wantNew(t, text, step)
			wantNew(t, "y"+text[:239], step)
			wantNew(t, text[:159], step)
			wantNew(t, text[:160], step)
			wantNew(t, text[:161], step)
		}
	}
	closed := filledUp(160, "<a b=\"", "x", "\">")
	wantChecks(t, closed, 53, "", check(0, 0, ""), check(53, 0, closed[:53]), check(106, 0, closed[:106]), check(159, 0, closed[:159]))
	wantChecks(t, closed+"z", 40, "", check(0, 0, ""), check(40, 0, closed[:40]), check(80, 0, closed[:80]), check(120, 0, closed[:120]), check(160, 1, ""))
	late := filledUp(161, "<a b=\"", "x", "\">")
	wantChecks(t, late, 40, "", check(0, 0, ""), check(40, 0, late[:40]), check(80, 0, late[:80]), check(120, 0, late[:120]), check(160, 160, ""))
}

// Data that ends within a mark: that is held behind all of it, and is let go by TokensOf alone.
func TestDataThatEndsWithinAMark(t *testing.T) {
	for _, open := range []string{
		"<", "<b", "</", "</b", "<b ", "<b/", "<b x", "<b x=", "<b x=\"", "<b x=\"y", "<b x=\"y\"", "<b x=\"<>", "<b x=\"&lt;>", "<!", "<!-", "<!--", "<!---", "<!----", "<!-->", "<!--->", "<!-- x", "<!-- <b>\"",
		"&", "&l", "&lt", "&amp", "&quot", "&#", "&#6", "&#255", "&abcd", filledUp(159, "<", "x", ""), filledUp(159, "<!--", ">", ""), filledUp(159, "<b \"", "<", ""),
	} {
		for _, ahead := range []string{"", "x", "ab<b>", "&lt;&gt;", "<!-- x -->", "<X>", "&y"} {
			text := ahead + open
			for _, step := range append(fewSteps(), int64(min(len(text), 60))) {
				m := wantNew(t, text, step)
				if string(m.Held) != open {
					t.Errorf("%s: %q is held", briefNew(text, step), m.Held)
				}
				wantLexed(t, fmt.Sprintf("TokensOf of %q", text), impl.TokensOf(m), lexed{tokens: joined(m.Tokens, asBytes(open))})
				wantLast(t, m, -1, 0, int64(len(text))-1, int64(len(text)), int64(len(text))+1)
			}
		}
	}
}

// What is behind the end of a mark is held no more, and the last check tells as many tokens as there are.
func TestDataThatEndsBehindAMark(t *testing.T) {
	for _, text := range []string{"x", "<b>", "</b>", "<b/>", "<b x=\"y\">", "<!---->", "&lt;", "&#65;", "&bad;", "<B>", "&abcde", "a>", filledUp(160, "<", "x", "")} {
		for _, step := range append(fewSteps(), int64(min(len(text), 60))) {
			m := wantNew(t, text, step)
			last := m.Checks[len(m.Checks)-1]
			if len(m.Held) != 0 || last.At == int64(len(text)) && (last.Count != int64(len(m.Tokens)) || len(last.Held) != 0) {
				t.Errorf("%s: got %s", briefNew(text, step), briefMemo(m))
			}
			wantLexed(t, fmt.Sprintf("TokensOf of %q", text), impl.TokensOf(m), lexed{tokens: m.Tokens})
		}
	}
}
