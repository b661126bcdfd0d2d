package tests

import (
	"strings"
	"testing"

	"loop.example/g00606/impl"
)

// P14: all edits of all short texts of the bytes that have a meaning.
func TestEveryEditOfShortTexts(t *testing.T) {
	wordsUpTo("<>&;\"a", 3, func(text string) {
		wantEdits(t, text, []int64{1, 2, 3}, allEdits(len(text), "", "x", "<", "\"", ">", "&l", "a;"))
	})
	wordsUpTo("/\">", 2, func(word string) {
		text := "x<a" + word + ">y"
		wantEdits(t, text, []int64{1, 2, 4}, allEdits(len(text), "", "b", "\"", "<"))
	})
}

// P14: all edits of texts with marks of every kind.
func TestEveryEditOfTextsWithMarks(t *testing.T) {
	for _, text := range []string{"ab<b>cd", "a&lt;b", "<!--x-->y", "<a b=\"<\">c", "<i/></i>", "&am<b&#65;"} {
		wantEdits(t, text, []int64{1, 2, 3, 5}, allEdits(len(text), "", "x", "<", "\"", ">", "&", "--", "<b>"))
	}
}

// P14: few edits of very many texts, long ones among them, by all kinds of steps.
func TestEditsOfTextsOfManyKinds(t *testing.T) {
	for i, text := range lexTexts() {
		puts := []string{"", markPuts()[i%len(markPuts())], markPuts()[(i*5+3)%len(markPuts())]}
		wantEdits(t, text, []int64{fewSteps()[i%len(fewSteps())]}, someEdits(len(text), puts...))
	}
}

// P14: edits by chance of texts by chance.
func TestEditsByChance(t *testing.T) {
	for seed := range uint32(1500) {
		m := madeMemo(mixedText(int(seed%30), seed*31), int64(seed*7%60)+1)
		size := int64(len(m.Data))
		at := int64(seed*131) % (size + 1)
		n := int64(seed*17) % (size - at + 1)
		wantEdit(t, m, edit{at, n % 9, mixedText(int(seed%4), seed*13+5)})
		wantEdit(t, m, edit{at, n, mixedText(int(seed%7), seed*19+1)})
	}
}

// P14: edits one behind the other, each of the memo that the one ahead led to.
func TestEditsOneBehindTheOther(t *testing.T) {
	for seed := range uint32(40) {
		m := madeMemo(mixedText(int(seed%9), seed*3), int64(seed*11%60)+1)
		for turn := range uint32(25) {
			chance := seed*977 + turn*131
			size := int64(len(m.Data))
			at := int64(chance) % (size + 1)
			e := edit{at, min(int64(turn%5), size-at), mixedText(int(turn%3), chance)}
			if splicedOf(string(m.Data), e).Code == impl.OK {
				m = wantEdit(t, m, e)
			}
		}
	}
}

// P14: a text that is typed byte by byte has at each byte the memo that it has at once, and reads no more than a step again.
func TestATextThatIsTyped(t *testing.T) {
	for _, text := range []string{"a<b>c&lt;<!-- d -->e<a href=\"f>\" g=\"&amp;\"/>h</b>&#65;&bad;<i", filledUp(165, "<!--", "x", ""), strings.Repeat("&lt;<b>", 8)} {
		for _, step := range fewSteps() {
			typed, ahead := madeMemo("", step), madeMemo("", step)
			for i := range len(text) {
				at := int64(i)
				if read := impl.EditMemo(typed, at, 0, []byte(text[i:i+1])).Read; read > step {
					t.Errorf("%s: %d bytes are read", briefEdit(typed, edit{at, 0, text[i : i+1]}), read)
				}
				typed = wantEdit(t, typed, edit{at, 0, text[i : i+1]})
				ahead = wantOneEdit(t, ahead, edit{0, 0, text[len(text)-i-1 : len(text)-i]})
			}
			wantSameMemos(t, "typed", typed, madeMemo(text, step), true)
			wantSameMemos(t, "typed from the end on", ahead, madeMemo(text, step), true)
		}
	}
}

// P14: every step there is, those that divide Data and those that do not.
func TestEditsByEveryStep(t *testing.T) {
	texts := []string{"a<b>c&lt;<!-- d -->e<a href=\"f>\" g=\"&amp;\"/>h</b>&#65;&bad;<i", strings.Repeat("x", 60), strings.Repeat("a<b>", 30)}
	for _, text := range texts {
		size := int64(len(text))
		for step := range int64(60) {
			m := madeMemo(text, step+1)
			for _, e := range []edit{{0, 0, ""}, {0, 0, "x"}, {1, 1, "y"}, {7, 3, "<"}, {30, 0, "\""}, {31, 5, ">"}, {size - 1, 1, ""}, {size, 0, "z"}, {0, size, "<b>"}} {
				wantEdit(t, m, e)
			}
		}
	}
}

// P14: what is behind an edit is not read, where that leaves what is held as it was: the
// bytes that are read are those up to the next check of the old text.
func TestPlainEditsReadToTheNextCheck(t *testing.T) {
	for _, step := range []int64{1, 2, 7, 30, 60} {
		m := madeMemo(strings.Repeat("x", 200), step)
		for at := range int64(201) {
			for _, put := range []string{"", "y", "yyy"} {
				got := impl.EditMemo(m, at, 0, []byte(put))
				next := min((at+step-1)/step*step, 200)
				if want := next - at/step*step + int64(len(put)); got.Code != impl.OK || got.Read != want {
					t.Errorf("%s: got code %d, %d bytes are read, want %d", briefEdit(m, edit{at, 0, put}), got.Code, got.Read, want)
				}
			}
		}
	}
}
