package tests

import (
	"fmt"
	"strings"
	"testing"

	"loop.example/g00606/impl"
)

// fewSteps are the least ones, the greatest ones, and some between.
func fewSteps() []int64 {
	return []int64{1, 2, 3, 7, 16, 59, 60}
}

// P13: whatever the text and the step, a memo is right, and may be gone on with from each of its checks.
func TestEveryTextHasItsMemo(t *testing.T) {
	for _, text := range lexTexts() {
		for _, step := range fewSteps() {
			wantNew(t, text, step)
		}
	}
	for seed := range uint32(600) {
		wantNew(t, mixedText(int(seed%40), seed*31), int64(seed%60)+1)
	}
}

// P13: all short texts of the bytes that have a meaning.
func TestShortTextsHaveTheirMemos(t *testing.T) {
	both := func(text string) {
		for step := range int64(4) {
			wantNew(t, text, step+1)
		}
	}
	wordsUpTo("<>&;\"a", 4, both)
	wordsUpTo("/ a=\">", 3, func(word string) { both("<a" + word) })
	wordsUpTo(">!-<", 4, func(word string) { both("<!-" + word) })
	wordsUpTo("&#t1;", 3, func(word string) { both("&l" + word) })
}

// P13: every step there is, over texts of all that is held.
func TestEveryStepHasItsMemo(t *testing.T) {
	texts := []string{"", "x", "a<b>c&lt;<!-- d -->e<a href=\"f>\" g=\"&amp;\"/>h</b>&#65;&bad;<i", filledUp(240, "<!--", "x", ""), filledUp(240, "<b \"", "<", "\">"), strings.Repeat("&lt;<b>", 34)}
	for _, text := range texts {
		for step := range int64(60) {
			wantNew(t, text, step+1)
		}
	}
}

// P13: checks stand at each place that Step divides, and nowhere else, whatever the size of Data is.
func TestEverySizeHasItsChecks(t *testing.T) {
	for size := range impl.MaxText + 1 {
		text := strings.Repeat("a<b>", 60)[:size]
		for step := range int64(60) {
			got := impl.NewMemo([]byte(text), step+1)
			wantMemo(t, briefNew(text, step+1), got, memoOf(text, step+1))
			if len(got.Memo.Checks) != size/int(step+1)+1 {
				t.Errorf("%s: %d checks", briefNew(text, step+1), len(got.Memo.Checks))
			}
		}
	}
}

// P13: the last check ahead of a place is no more than a step away from it, at every place, whatever the step is.
func TestTheLastCheckIsAStepAway(t *testing.T) {
	for _, text := range []string{"", "x", "ab<b>c", "a&lt;b&", "<a href=\"x>y\">z</a><!-- n", "&am<i>&#65;</i><br/><"} {
		for step := range int64(60) {
			wantLast(t, madeMemo(text, step+1), allPlaces(len(text))...)
		}
	}
	for _, step := range append(fewSteps(), 4, 5, 8, 12, 24, 30, 48) {
		long := madeMemo(mixedText(60, uint32(step)), step)
		wantLast(t, long, allPlaces(len(long.Data))...)
	}
}

// P13: the last check of every place, of texts by chance.
func TestTheLastCheckOfMixedTexts(t *testing.T) {
	for seed := range uint32(150) {
		m := madeMemo(mixedText(int(seed%12), seed*77), int64(seed*7%60)+1)
		wantLast(t, m, allPlaces(len(m.Data))...)
	}
	wordsUpTo("<>&\"a", 3, func(word string) {
		for step := range int64(5) {
			wantLast(t, madeMemo(word, step+1), allPlaces(len(word))...)
		}
	})
}

// P13: what is behind the last check ahead of a place, up to that place, leads to what is there.
func TestAPlaceIsReachedFromItsLastCheck(t *testing.T) {
	for seed := range uint32(60) {
		m := madeMemo(mixedText(int(seed%15), seed*101), int64(seed%20)+1)
		for at := range int64(len(m.Data)) + 1 {
			last := impl.LastCheck(m, at).Check
			on := impl.FeedAll(impl.LexState{Held: last.Held}, m.Data[last.At:at])
			once := impl.FeedAll(impl.LexState{}, m.Data[:at])
			got := impl.LexResult{Code: on.Code, Tokens: joined(m.Tokens[:last.Count], on.Tokens), State: on.State}
			wantLexed(t, fmt.Sprintf("%s at %d", briefMemo(m), at), got, lexed{once.Tokens, string(once.State.Held)})
		}
	}
}

// P13: a memo that the program made and one that the test made are the same, and are told as the same.
func TestMemosAreOfTheirTextAlone(t *testing.T) {
	for _, text := range lexTexts() {
		for _, step := range fewSteps() {
			m := impl.NewMemo([]byte(text), step).Memo
			wantSameMemos(t, "made twice", m, impl.NewMemo([]byte(text), step).Memo, true)
			wantSameMemos(t, "made by the test", m, copiedMemo(madeMemo(text, step)), true)
			other := step%60 + 1
			wantSameMemos(t, "by another step", m, impl.NewMemo([]byte(text), other).Memo, false)
			if len(text) < impl.MaxText {
				wantSameMemos(t, "of another text", m, impl.NewMemo([]byte(text+"x"), step).Memo, false)
			}
		}
	}
}
