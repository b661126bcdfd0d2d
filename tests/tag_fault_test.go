package tests

import (
	"math"
	"testing"

	"loop.example/g00606/impl"
)

func oddNumbers() []int64 {
	return []int64{math.MinInt64, math.MinInt64 + 1, math.MinInt32, -256, -255, -2, -1, 0, 1, 2, 3, 4, 5, 6, 34, 60, 127, 128, 254, 255, 256, 257, 258, 512, math.MaxInt32, 1 << 32, 1<<32 + 1, 1<<32 + 2, math.MaxInt64 - 1, math.MaxInt64}
}

// badTokens are tokens with a fault each, of every code.
func badTokens() []impl.Token {
	attrs := []impl.Attr{attr("a", "x")}
	tokens := []impl.Token{
		{}, {Kind: 5}, {Kind: -1}, {Kind: math.MaxInt64}, {Kind: math.MinInt64}, {Kind: 0, Name: "a"}, {Kind: 5, Name: "a"}, {Kind: 0, Byte: 256},
		byteToken(-1), byteToken(256), byteToken(math.MaxInt64), byteToken(math.MinInt64),
		{Kind: impl.TokByte, Byte: 1, Name: "a"}, {Kind: impl.TokByte, Byte: 1, Attrs: attrs}, {Kind: impl.TokByte, Byte: 1, Shut: true}, {Kind: impl.TokByte, Byte: 256, Shut: true},
		{Kind: impl.TokStart, Name: "a", Byte: 1}, {Kind: impl.TokStart, Name: "a", Byte: -1}, {Kind: impl.TokStart, Name: "a", Byte: 256}, {Kind: impl.TokStart, Name: "A", Byte: 256},
		{Kind: impl.TokEnd, Name: "a", Byte: 1}, {Kind: impl.TokEnd, Name: "a", Attrs: attrs}, {Kind: impl.TokEnd, Name: "a", Shut: true}, {Kind: impl.TokEnd, Shut: true},
		{Kind: impl.TokNote, Byte: 1}, {Kind: impl.TokNote, Name: "a"}, {Kind: impl.TokNote, Attrs: attrs}, {Kind: impl.TokNote, Shut: true}, {Kind: impl.TokNote, Byte: 256},
		start("a", attr("b", "1"), attr("b", "1")), start("a", attr("b", "1"), attr("b", "2")), start("a", attr("", "")), shut("a", attr("b", ""), attr("B", "")),
		start("A", attr("b", ""), attr("b", "")), start("a", attr("b", ""), attr("", ""), attr("b", "")), start("a", attr("b", ""), attr("b", ""), attr("", "")),
	}
	for _, name := range noNames() {
		if len(name) < 100 {
			tokens = append(tokens, start(name), shut(name, attr("a", "")), end(name), start("a", attr(name, "x")))
		}
	}
	return tokens
}

func TestFaultsCodeByCode(t *testing.T) {
	for _, token := range badTokens() {
		if faultOf(token) == impl.OK {
			t.Errorf("%s has no fault", shown(token))
		}
		wantFault(t, token, faultOf(token))
	}
}

func TestKindsThatAreNone(t *testing.T) {
	for _, kind := range oddNumbers() {
		if kind >= 1 && kind <= 4 {
			continue
		}
		for _, b := range oddNumbers() {
			wantFault(t, impl.Token{Kind: kind, Byte: b}, impl.ErrForm)
		}
		wantFault(t, impl.Token{Kind: kind, Name: "a"}, impl.ErrForm)
		wantFault(t, impl.Token{Kind: kind, Name: "A", Attrs: []impl.Attr{attr("", "")}, Shut: true}, impl.ErrForm)
	}
}

func TestBytesOutOfRange(t *testing.T) {
	for _, b := range oddNumbers() {
		code := int64(impl.OK)
		if b < 0 || b > 255 {
			code = impl.ErrRange
		}
		wantFault(t, byteToken(b), code)
		code = impl.OK
		if b != 0 {
			code = impl.ErrForm
		}
		wantFault(t, impl.Token{Kind: impl.TokStart, Byte: b, Name: "a"}, code)
		wantFault(t, impl.Token{Kind: impl.TokEnd, Byte: b, Name: "a"}, code)
		wantFault(t, impl.Token{Kind: impl.TokNote, Byte: b}, code)
	}
}

// The order of the codes: of the form ahead of the byte, of that ahead of the name, of that ahead of the attributes.
func TestOrderOfFaults(t *testing.T) {
	twice := []impl.Attr{attr("b", ""), attr("b", "")}
	for _, c := range []struct {
		token impl.Token
		code  int64
	}{
		{impl.Token{Kind: 0, Byte: 256, Name: "A", Attrs: twice, Shut: true}, impl.ErrForm},
		{impl.Token{Kind: impl.TokByte, Byte: 256, Name: "a"}, impl.ErrForm},
		{impl.Token{Kind: impl.TokByte, Byte: -1, Name: "A"}, impl.ErrForm},
		{impl.Token{Kind: impl.TokByte, Byte: -1, Attrs: twice}, impl.ErrForm},
		{impl.Token{Kind: impl.TokByte, Byte: -1, Attrs: []impl.Attr{attr("", "")}}, impl.ErrForm},
		{impl.Token{Kind: impl.TokByte, Byte: 256, Shut: true}, impl.ErrForm},
		{impl.Token{Kind: impl.TokByte, Byte: 256}, impl.ErrRange},
		{impl.Token{Kind: impl.TokStart, Byte: 256, Name: "A"}, impl.ErrForm},
		{impl.Token{Kind: impl.TokStart, Byte: 1}, impl.ErrForm},
		{impl.Token{Kind: impl.TokStart, Attrs: twice}, impl.ErrText},
		{impl.Token{Kind: impl.TokStart}, impl.ErrText},
		{impl.Token{Kind: impl.TokEnd}, impl.ErrText},
		{impl.Token{Kind: impl.TokEnd, Shut: true}, impl.ErrForm},
		{impl.Token{Kind: impl.TokEnd, Name: "A", Attrs: twice}, impl.ErrForm},
		{impl.Token{Kind: impl.TokEnd, Name: "A", Byte: 300}, impl.ErrForm},
		{impl.Token{Kind: impl.TokNote, Name: "A"}, impl.ErrForm},
		{impl.Token{Kind: impl.TokNote, Byte: 256}, impl.ErrForm},
		{start("a", attr("b", ""), attr("b", ""), attr("", "")), impl.ErrForm},
		{start("a", attr("b", ""), attr("", ""), attr("b", "")), impl.ErrText},
		{start("a", attr("", ""), attr("", "")), impl.ErrText},
		{start("a", attr("b", ""), attr("c", ""), attr("d", ""), attr("c", "")), impl.ErrForm},
		{start("a", attr("B", ""), attr("B", "")), impl.ErrText},
		{start("a", attr("b", ""), attr("c", ""), attr("cc", ""), attr("bb", "")), impl.OK},
		{start("a", attr("a", "")), impl.OK},
	} {
		wantFault(t, c.token, c.code)
	}
}

// Every kind with every choice of what a token may have.
func TestFaultsOfEveryShape(t *testing.T) {
	names := []string{"", "a", "abcdefgh", "abcdefghi", "A"}
	lists := [][]impl.Attr{nil, {}, {attr("a", "")}, {attr("a", ""), attr("b", "")}, {attr("a", ""), attr("a", "")}, {attr("A", "")}, {attr("a", ""), attr("", ""), attr("a", "")}}
	for kind := int64(-1); kind <= 6; kind++ {
		for _, b := range []int64{-1, 0, 1, 60, 255, 256} {
			for _, name := range names {
				for _, attrs := range lists {
					for _, shut := range []bool{false, true} {
						token := impl.Token{Kind: kind, Byte: b, Name: name, Attrs: attrs, Shut: shut}
						wantFault(t, token, faultOf(token))
						wantWritten(t, token)
					}
				}
			}
		}
	}
}

func TestAttrOf(t *testing.T) {
	token := start("a", attr("b", "x"), attr("c", ""), attr("abcdefgh", "<>&\"\x00\xff"))
	for name, want := range map[string]string{"b": "x", "c": "", "abcdefgh": "<>&\"\x00\xff"} {
		wantAttr(t, token, name, impl.BytesResult{Bytes: []byte(want)})
	}
	for _, name := range append(noNames(), "a", "d", "bb", "bc", "abcdefg") {
		wantAttr(t, token, name, impl.BytesResult{Code: impl.ErrNone})
		for _, other := range []impl.Token{start("a"), shut("b"), end("b"), note(), byteToken('b')} {
			wantAttr(t, other, name, impl.BytesResult{Code: impl.ErrNone})
		}
		for _, bad := range badTokens() {
			wantAttr(t, bad, name, impl.BytesResult{Code: faultOf(bad)})
		}
	}
	// A name that is there counts for nothing beside a fault.
	wantAttr(t, start("a", attr("b", "x"), attr("b", "y")), "b", impl.BytesResult{Code: impl.ErrForm})
	wantAttr(t, start("a", attr("b", "x"), attr("", "y")), "b", impl.BytesResult{Code: impl.ErrText})
	wantAttr(t, start("a", attr("b", "x"), attr("", "y")), "", impl.BytesResult{Code: impl.ErrText})
	wantAttr(t, start("A", attr("b", "x")), "b", impl.BytesResult{Code: impl.ErrText})
}
