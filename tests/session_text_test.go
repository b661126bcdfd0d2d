package tests

import (
	"fmt"
	"slices"
	"strings"
	"testing"

	"loop.example/g00606/impl"
)

// changeOfEdit tells an edit as a change of the kind that does no more than it, where there is one.
func changeOfEdit(e edit) impl.Change {
	switch {
	case e.n == 0:
		return inserting(e.at, e.put)
	case e.put == "":
		return deleting(e.at, e.n)
	}
	return replacing(e.at, e.n, e.put)
}

// wantDoneAndBack asks P16 of an edit as each kind of change that may tell it, and of the one that takes it back.
func wantDoneAndBack(t *testing.T, s impl.Session, e edit) {
	t.Helper()
	got := wantDone(t, s, changeOfEdit(e))
	whole := wantDone(t, s, replacing(e.at, e.n, e.put))
	if shownDone(got) != shownDone(whole) {
		t.Errorf("%s: by %s it is %s, as a replace %s", briefSession(s), briefChange(changeOfEdit(e)), shownDone(got), shownDone(whole))
	}
	if got.Code != impl.OK {
		return
	}
	back := impl.DoChange(got.Session, changeOfEdit(e.back(string(s.Memo.Data))))
	if back.Code != impl.OK || shownSession(withTable(back.Session, s.Table)) != shownSession(s) {
		t.Errorf("%s, by %s and back: got %d, %s", briefSession(s), briefChange(changeOfEdit(e)), back.Code, briefSession(back.Session))
	}
	wantTold(t, "the patches back", impl.PreviewOf(s.Out, [][]impl.Patch{got.Patches, back.Patches}), impl.BytesResult{Bytes: s.Out})
}

// P16: all edits of short texts, in one piece and in many, by policies that let in more and less.
func TestAllEditsOfShortSessions(t *testing.T) {
	for _, text := range []string{"", "x", "<b>x", "a<i>b<", "&lt;<b>"} {
		for _, p := range []impl.Policy{{}, policyOf("b i", "", "")} {
			made := madeSession(p, text, 2)
			for _, s := range []impl.Session{made, withTable(made, scatteredTable(text, 1)), withTable(made, scatteredTable(text, 3))} {
				for _, e := range allEdits(len(text), "", "y", "<", "<b>") {
					wantDoneAndBack(t, s, e)
				}
			}
		}
	}
}

// P16: edits at the ends of texts of all kinds, and between.
func TestSomeEditsOfSessionsOfAllKinds(t *testing.T) {
	for _, s := range sessionsOfAllKinds() {
		for i, e := range someEdits(len(s.Memo.Data), markPuts()...) {
			if i%5 == 0 {
				wantDoneAndBack(t, s, e)
			}
		}
	}
}

// P16: every text is opened, by policies of all kinds, with each step.
func TestEveryTextIsOpened(t *testing.T) {
	policies := rightPolicies()
	count := map[int64]int{}
	for seed := range uint32(1200) {
		text := cleanText(int(seed%40), seed*2654435761)
		if seed%4 == 0 {
			text = mixedText(int(seed%30), seed*31)
		}
		s := wantOpened(t, policies[int(seed)%len(policies)], text, int64(seed%60)+1)
		count[s.Status]++
	}
	if count[impl.OK] < 300 || count[impl.ErrLarge] < 50 {
		t.Errorf("the Status is %v: that says too little", count)
	}
	for _, text := range lexTexts() {
		wantOpened(t, openPolicy(), text, 7)
	}
}

// P16: changes by chance, one behind the other, of texts of all kinds; all of them lead to what is shown at last.
func TestChangesByChance(t *testing.T) {
	policies := rightPolicies()
	codes, statuses, shown := map[int64]int{}, map[int64]int{}, 0
	for seed := range uint32(60) {
		text := cleanText(int(seed%30), seed*40503)
		s := madeSession(policies[int(seed*7)%len(policies)], text, int64(seed%60)+1)
		if seed%3 == 0 {
			s.Table = scatteredTable(text, len(text)/30+1)
		}
		got := wantChanges(t, s, someChanges(20, len(text), seed*77777))
		for i, code := range got.Codes {
			codes[code]++
			shown += len(got.Patches[i])
		}
		statuses[got.Session.Status]++
	}
	if codes[impl.OK] < 500 || codes[impl.ErrRange] < 50 || codes[impl.ErrForm] < 10 || statuses[impl.OK] < 20 || statuses[impl.ErrLarge] < 3 || shown < 300 {
		t.Errorf("the codes are %v, the statuses %v, %d patches: that says too little", codes, statuses, shown)
	}
}

// P16: a session that goes on for long: what it comes to, its text, and its preview keep step all the while; where there are too many pieces one compact makes room.
func TestASessionThatGoesOn(t *testing.T) {
	s := madeSession(openPolicy(), "<p>a text</p>", 8)
	text, preview, crowdedAt := string(s.Memo.Data), s.Out, 0
	for turn := range uint32(1200) {
		c := someChange(int64(len(text)), turn*2654435761)
		if c.Kind == impl.DoCompact {
			c = obeying(openPolicy())
		}
		if c.Kind == impl.DoInsert && len(text) > 120 {
			c = deleting(int64(turn%80), 5)
		}
		got := impl.DoChange(s, c)
		if got.Code == impl.ErrMany {
			crowdedAt++
			got, c = impl.DoChange(s, compacting()), compacting()
		}
		if got.Code == impl.OK {
			s = got.Session
		}
		if got.Code == impl.OK && isEdit(c) {
			text = text[:c.At] + string(c.Put) + text[c.At+c.N:]
		}
		preview = impl.ApplyPatches(preview, got.Patches).Bytes
		if string(s.Memo.Data) != text || string(impl.TextOf(s.Table).Bytes) != text || string(preview) != string(s.Out) || impl.SessionFault(s) != impl.OK {
			t.Fatalf("turn %d, %s: got %s, want %q", turn, briefChange(c), briefSession(s), text)
		}
	}
	if crowdedAt < 2 || len(text) < 20 {
		t.Errorf("%d times there were too many pieces, %q is left: that says too little", crowdedAt, text)
	}
}

// P16: in two parts at each place, and in three: a session that was left goes on as if it had not been.
func TestChangesInParts(t *testing.T) {
	for seed := range uint32(8) {
		text := cleanText(int(seed*2), seed*97)
		s := madeSession(openPolicy(), text, 5)
		list := someChanges(12, len(text), seed*131)
		whole := impl.RunChanges(s, list)
		for from := range len(list) + 1 {
			wantInTwoParts(t, fmt.Sprintf("seed %d", seed), s, list, from, whole)
			parts, codes := s, []int64(nil)
			for _, part := range [][]impl.Change{list[:from/2], list[from/2 : from], list[from:]} {
				run := impl.RunChanges(parts, part)
				parts, codes = run.Session, append(codes, run.Codes...)
			}
			if !impl.SameSessions(parts, whole.Session) || !slices.Equal(codes, whole.Codes) {
				t.Errorf("seed %d, in three parts at %d and %d: got %v, %s", seed, from/2, from, codes, briefSession(parts))
			}
		}
	}
}

// P16: a list of patches goes to what was shown ahead of it, and to nothing else; PreviewOf of a part of them is what was shown by then.
func TestPreviewsOfEachPart(t *testing.T) {
	for seed := range uint32(20) {
		text := cleanText(int(seed), seed*40503)
		s := madeSession(openPolicy(), text, 9)
		list := someChanges(15, len(text), seed*53)
		whole := impl.RunChanges(s, list)
		for n := range len(list) + 1 {
			part := impl.RunChanges(s, list[:n])
			wantTold(t, fmt.Sprintf("PreviewOf of the first %d", n), impl.PreviewOf(s.Out, whole.Patches[:n]), impl.BytesResult{Bytes: part.Session.Out})
			wantTold(t, fmt.Sprintf("PreviewOf of those behind %d", n), impl.PreviewOf(part.Session.Out, whole.Patches[n:]), impl.BytesResult{Bytes: whole.Session.Out})
		}
	}
}

// P16: previews of lists by chance are what each list leads to, one behind the other.
func TestPreviewsByChance(t *testing.T) {
	for seed := range uint32(400) {
		data := mixedText(int(seed%15), seed*31)
		var lists [][]impl.Patch
		size := int64(len(data))
		for i := range seed % 21 {
			// Some are made for more bytes than there are by then.
			list := somePatches(int((seed+i)%5), size, seed*13+i)
			lists = append(lists, list)
			if next := impl.PreviewOf([]byte(data), lists); next.Code == impl.OK && i%9 != 8 {
				size = int64(len(next.Bytes))
			}
		}
		wantPreview(t, data, lists)
	}
	wantPreview(t, strings.Repeat("x", 1999), [][]impl.Patch{patches(patch(0, 0, "y")), patches(patch(2000, 0, "")), patches(patch(0, 1, ""))})
}
