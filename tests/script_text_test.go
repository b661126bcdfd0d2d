package tests

import (
	"fmt"
	"slices"
	"strings"
	"testing"

	"loop.example/g00606/impl"
)

// P17: lines of every kind, in sessions of all kinds, with line feeds and without them.
func TestLinesOfEveryKind(t *testing.T) {
	count := map[int64]int{}
	for _, s := range scriptSessions() {
		size := int64(len(s.Memo.Data))
		for _, line := range slices.Concat(plainLines(), changeLines(size), codeLines(size)) {
			count[wantLine(t, s, line).Code]++
		}
	}
	for _, code := range []int64{impl.OK, impl.ErrForm, impl.ErrMany, impl.ErrRange, impl.ErrText, impl.ErrLarge} {
		if count[code] < 10 {
			t.Errorf("the codes are %v: that says too little", count)
		}
	}
}

// P17: what is said of a text is so, byte by byte: every byte alone, and beside others.
func TestEveryByteIsSaid(t *testing.T) {
	for b := range 256 {
		for _, around := range [][2]string{{"", ""}, {"a", "b"}, {"&", ";"}, {"\n", "\n"}, {"<", ">"}} {
			text := around[0] + string([]byte{byte(b)}) + around[1]
			s := impl.OpenSession(policyOf("b i", "", ""), []byte(text), 2).Session
			said := ""
			for i := range len(text) {
				one := impl.EscapeByte(int64(text[i])).Text
				if text[i] == 10 {
					one = "&#10;"
				}
				said += one
			}
			got := impl.StepScript(s, "text")
			wantScriptResult(t, fmt.Sprintf("text of %q", text), got, impl.ScriptResult{Session: s, Said: said})
			wantTold(t, fmt.Sprintf("DecodeText of %q", got.Said), impl.DecodeText(got.Said), impl.BytesResult{Bytes: []byte(text)})
			wantSaidIsSo(t, fmt.Sprintf("show of %q", text), s, "show", impl.StepScript(s, "show"))
		}
	}
}

// P17: texts of all kinds are said, and what is shown of them, and how many checks there are.
func TestEverySessionIsSaid(t *testing.T) {
	policies := rightPolicies()
	for seed := range uint32(400) {
		text := cleanText(int(seed%40), seed*2654435761)
		if seed%3 == 0 {
			text = strings.ReplaceAll(mixedText(int(seed%30), seed*31), "x", "\n")
		}
		s := impl.OpenSession(policies[int(seed)%len(policies)], []byte(text), int64(seed%60)+1).Session
		for _, line := range plainLines() {
			wantSaidIsSo(t, fmt.Sprintf("%q of %s", line, briefSession(s)), s, line, impl.StepScript(s, line))
		}
	}
}

// P17: scripts by chance, in sessions of all kinds: line by line, and in two parts.
func TestScriptsByChance(t *testing.T) {
	sessions := scriptSessions()
	codes, said := map[byte]int{}, 0
	for seed := range uint32(120) {
		s := sessions[int(seed)%len(sessions)]
		got := wantScript(t, s, someScript(int(seed%21), len(s.Memo.Data), seed*77777))
		for line := range strings.Lines(got.Said) {
			said++
			if strings.HasPrefix(line, "! ") {
				codes[line[2]]++
			}
		}
	}
	if said < 700 || codes['2'] < 1 || codes['3'] < 20 || codes['5'] < 40 || codes['6'] < 10 {
		t.Errorf("%d lines were said, the codes are %v: that says too little", said, codes)
	}
}

// P17: a script that is cut behind a line feed, wherever, does in two parts, and in three, what it does in one.
func TestScriptsInParts(t *testing.T) {
	sessions := scriptSessions()
	for seed := range uint32(16) {
		s := sessions[int(seed*5)%len(sessions)]
		text := someScript(14, len(s.Memo.Data), seed*40503+1)
		whole := impl.RunScript(s, text)
		if whole.Code != impl.OK {
			t.Fatalf("RunScript by %q: got %d", text, whole.Code)
		}
		cuts := cutsOf(text)
		for i, at := range cuts {
			wantScriptInParts(t, fmt.Sprintf("seed %d", seed), s, []string{text[:at], text[at:]}, whole)
			first := cuts[i/2]
			wantScriptInParts(t, fmt.Sprintf("seed %d", seed), s, []string{text[:first], text[first:at], text[at:]}, whole)
		}
		lines := slices.Collect(strings.Lines(text))
		wantScriptInParts(t, fmt.Sprintf("seed %d", seed), s, lines, whole)
	}
}

// P17: a script that tells changes alone comes to what RunChanges comes to, and says the patches of each.
func TestScriptsOfChangesAlone(t *testing.T) {
	for seed := range uint32(60) {
		text := cleanText(int(seed%20), seed*97)
		s := madeSession(openPolicy(), text, 5)
		var list []impl.Change
		script := ""
		for _, c := range someChanges(20, len(text), seed*131) {
			if line, found := lineOfChange(c); found && len(script)+len(line) < 800 {
				list, script = append(list, c), script+line+"\n"
			}
		}
		run := impl.RunChanges(s, list)
		want := impl.ScriptResult{Session: run.Session}
		for i, code := range run.Codes {
			want.Said += heard(impl.ScriptResult{Code: code, Said: impl.PatchText(run.Patches[i]).Text})
		}
		wantScriptResult(t, fmt.Sprintf("seed %d, %q", seed, script), impl.RunScript(s, script), want)
		if len(list) < 10 {
			t.Errorf("seed %d tells %d changes: that says too little", seed, len(list))
		}
	}
}

// P17: what was typed line by line is read back from what is said, and a session that is made of it is the same but for its table.
func TestWhatIsSaidIsReadBack(t *testing.T) {
	for seed := range uint32(60) {
		s := madeSession(openPolicy(), cleanText(int(seed%20), seed*53), 7)
		for turn := range uint32(5) {
			s = impl.RunScript(s, someScript(12, len(s.Memo.Data), seed*31+turn)).Session
			said := impl.RunScript(s, "text\n").Said
			text := impl.DecodeText(strings.TrimSuffix(said, "\n")).Bytes
			opened := impl.OpenSession(s.Policy, text, s.Memo.Step).Session
			if shownSession(withTable(opened, s.Table)) != shownSession(s) {
				t.Errorf("seed %d: %q was said of %s", seed, said, briefSession(s))
			}
		}
	}
}

// P17: patches of all kinds: their text tells each one's places, and how much it puts.
func TestPatchesByChanceAreSaid(t *testing.T) {
	for seed := range uint32(400) {
		list := somePatches(int(seed%23), int64(seed%30), seed*37)
		if got, want := impl.PatchText(list), patchTextOf(list); got != want {
			t.Errorf("PatchText of %s: got %+v, want %+v", briefPatches(list), got, want)
		}
	}
	for _, list := range patchLists(2000) {
		if got, want := impl.PatchText(list), patchTextOf(list); got != want {
			t.Errorf("PatchText of %s: got %+v, want %+v", briefPatches(list), got, want)
		}
	}
}

// P17: words by chance: each one has no blank, is as long as may be, and all of them are there.
func TestWordsByChance(t *testing.T) {
	for seed := range uint32(600) {
		line := mixed([]string{" ", "  ", "a", "b,c", "\n", "\t", "-", "é", "\xff", "\x00", "\u00a0", "\u3000"}, int(seed%12), seed*2654435761)
		var words []string
		for _, piece := range strings.Split(line, " ") {
			if piece != "" {
				words = append(words, piece)
			}
		}
		wantWords(t, line, words...)
	}
}
