package tests

import (
	"fmt"
	"strings"
	"testing"
	"unsafe"

	"loop.example/g00606/impl"
)

// roomyState is a copy with more room than it needs, so that a program that appends in place is found out.
func roomyState(was string) impl.LexState {
	return impl.LexState{Held: roomyBytes([]byte(was))}
}

// lexCalls are all calls that have a state or data, each with tokens or something held behind it.
func lexCalls(x impl.LexState, data []byte) []impl.LexResult {
	return []impl.LexResult{
		impl.FeedByte(x, 'x'), impl.FeedByte(x, '>'), impl.FeedByte(x, '<'), impl.FeedByte(x, ';'), impl.FeedByte(x, '&'), impl.FeedByte(x, 256),
		impl.FeedAll(x, data), impl.FeedAll(x, nil), impl.FinishLex(x), impl.LexText(data), impl.LexText(x.Held),
	}
}

func shownResult(r impl.LexResult) string {
	return fmt.Sprintf("%d%s, held %q", r.Code, shownAll(r.Tokens), r.State.Held)
}

func shownResults(results []impl.LexResult) string {
	var text strings.Builder
	for _, r := range results {
		text.WriteString(shownResult(r) + "\n")
	}
	return text.String()
}

func scribbleResult(r impl.LexResult) {
	scribbleBytes(r.State.Held)
	tokens := r.Tokens[:cap(r.Tokens)]
	for i := range tokens {
		scribbleToken(tokens[i])
		tokens[i] = impl.Token{Kind: tokens[i].Kind + 7, Byte: tokens[i].Byte + 7, Name: tokens[i].Name + "x"}
	}
}

func memoryStates() []string {
	return append(goodHeld(), "x", "lt;", "&abcde", filledUp(160, "<", "x", ""), filledUp(161, "<!--", "x", ""))
}

func memoryData() []string {
	return []string{"", "x", "<", "&lt", ">", "\">x<b c=\"dd\" e=\"ff\">&lt;<!-- ", "-->&#65;<a b=\"1\" b=\"2\"/></a><a b=\"1", "&&<<x", strings.Repeat("<b>", 80), strings.Repeat("x", 241)}
}

// P1: no call changes a state or data, nor the room behind them.
func TestFeedingChangesNoArgument(t *testing.T) {
	for _, was := range memoryStates() {
		for _, text := range memoryData() {
			x, y, data := roomyState(was), roomyState(was), roomyBytes([]byte(text))
			before := string(x.Held[:cap(x.Held)]) + string(data[:cap(data)])
			lexCalls(x, data)
			impl.LexFault(x)
			impl.SameStates(x, y)
			impl.SameStates(y, x)
			if string(x.Held[:cap(x.Held)])+string(data[:cap(data)]) != before || string(y.Held) != was {
				t.Errorf("%q or %q was changed", was, text)
			}
		}
	}
}

// P1: what is written to an argument is not seen in an answer, and what is written to an answer not in an argument.
func TestFeedingSharesNoMemory(t *testing.T) {
	for _, was := range memoryStates() {
		for _, text := range memoryData() {
			want := shownResults(lexCalls(held(was), []byte(text)))
			x, data := roomyState(was), roomyBytes([]byte(text))
			got := lexCalls(x, data)
			scribbleBytes(x.Held)
			scribbleBytes(data)
			if shownResults(got) != want {
				t.Errorf("%q with %q: what is written to an argument is seen in an answer", was, text)
			}
			x, data = roomyState(was), roomyBytes([]byte(text))
			before := string(x.Held[:cap(x.Held)]) + string(data[:cap(data)])
			got = lexCalls(x, data)
			for i, r := range got {
				scribbleResult(r)
				if shownResults(got[i+1:]) != shownResults(lexCalls(held(was), []byte(text))[i+1:]) {
					t.Errorf("%q with %q: what is written to an answer is seen in another one", was, text)
				}
			}
			if string(x.Held[:cap(x.Held)])+string(data[:cap(data)]) != before {
				t.Errorf("%q with %q: what is written to an answer is seen in an argument", was, text)
			}
			if shownResults(lexCalls(x, data)) != want {
				t.Errorf("%q with %q: what is written to an answer is seen in what is answered then", was, text)
			}
		}
	}
}

// span is where a list lies, with its room.
type span struct {
	from uintptr
	to   uintptr
}

func spanOf[T any](list []T) span {
	var one T
	from := uintptr(unsafe.Pointer(unsafe.SliceData(list)))
	return span{from, from + uintptr(cap(list))*unsafe.Sizeof(one)}
}

// spansOf are those of all lists of an answer that have room.
func spansOf(r impl.LexResult) []span {
	all := []span{spanOf(r.State.Held), spanOf(r.Tokens)}
	for _, token := range r.Tokens {
		all = append(all, spanOf(token.Attrs))
		for _, a := range token.Attrs {
			all = append(all, spanOf(a.Value))
		}
	}
	var spans []span
	for _, s := range all {
		if s.from < s.to {
			spans = append(spans, s)
		}
	}
	return spans
}

// P1: no two lists of one answer lie in the same memory, nor one in an argument.
func TestListsOfALexingShareNoMemory(t *testing.T) {
	for _, was := range memoryStates() {
		for _, text := range memoryData() {
			x, data := roomyState(was), roomyBytes([]byte(text))
			for _, r := range lexCalls(x, data) {
				spans := append(spansOf(r), spanOf(x.Held), spanOf(data))
				for i, a := range spans {
					for _, b := range spans[:i] {
						if a.from < b.to && b.from < a.to {
							t.Errorf("%q with %q: two lists share memory in %s", was, text, shownResult(r))
						}
					}
				}
			}
		}
	}
}

// P1: nil and an empty list are the same value.
func TestNothingHeldIsNothing(t *testing.T) {
	for _, nothing := range [][]byte{nil, {}, make([]byte, 0, 9)} {
		x := impl.LexState{Held: nothing}
		wantLexed(t, "FeedByte of nothing held", impl.FeedByte(x, 'x'), lexed{tokens: asBytes("x")})
		wantLexed(t, "FeedByte of nothing held", impl.FeedByte(x, '<'), lexed{held: "<"})
		wantLexed(t, "FeedAll of nothing held", impl.FeedAll(x, []byte("<b>&")), lexed{list(start("b")), "&"})
		wantLexed(t, "FeedAll of no data", impl.FeedAll(x, nothing), lexed{})
		wantLexed(t, "FeedAll of no data", impl.FeedAll(held("<b"), nothing), lexed{held: "<b"})
		wantLexed(t, "FinishLex of nothing held", impl.FinishLex(x), lexed{})
		wantLexed(t, "LexText of no data", impl.LexText(nothing), lexed{})
	}
}

// P1: what is answered hangs on the arguments alone, not on what was called ahead of it.
func TestLexingKeepsNothing(t *testing.T) {
	states := goodHeld()
	for round := range uint32(3) {
		for seed := range uint32(200) {
			text := mixedText(int(seed%20), seed)
			impl.FeedAll(held(states[int(seed+round)%len(states)]), []byte(mixedText(9, seed+round)))
			impl.FeedByte(held("<b x=\""), int64(round))
			impl.LexText([]byte("<!-- &"))
			wantReadWhole(t, text)
			was := states[int(seed)%len(states)]
			wantLexed(t, fmt.Sprintf("FeedAll of %q with %q", was, text), impl.FeedAll(held(was), []byte(text)), fedAll(was, text))
			wantStep(t, was, byte(seed))
		}
	}
}
