package tests

import (
	"strings"
	"testing"
	"unsafe"

	"loop.example/g00606/impl"
)

// roomyToken is a deep copy whose lists have more room than they need, so that a
// program that appends to them in place is found out.
func roomyToken(token impl.Token) impl.Token {
	attrs := make([]impl.Attr, 0, len(token.Attrs)+4)
	for _, a := range token.Attrs {
		attrs = append(attrs, impl.Attr{Name: a.Name, Value: roomyBytes(a.Value)})
	}
	token.Attrs = attrs
	return token
}

// wholeToken shows a token with all the room of its lists.
func wholeToken(token impl.Token) string {
	token.Attrs = append([]impl.Attr{}, token.Attrs[:cap(token.Attrs)]...)
	for i, a := range token.Attrs {
		token.Attrs[i].Value = a.Value[:cap(a.Value)]
	}
	return shown(token)
}

func scribbleToken(token impl.Token) {
	attrs := token.Attrs[:cap(token.Attrs)]
	for i := range attrs {
		scribbleBytes(attrs[i].Value)
		attrs[i] = impl.Attr{Name: attrs[i].Name + "x"}
	}
}

// P1: no call changes a token, the bytes of its values among them, nor the room behind them.
func TestTagsChangeNoArgument(t *testing.T) {
	for _, token := range append(goodTokens(), badTokens()...) {
		given, other := roomyToken(token), roomyToken(token)
		list := append(make([]impl.Token, 0, 4), given, other)
		before := wholeToken(given)
		impl.TokenFault(given)
		impl.WriteToken(given)
		impl.AttrOf(given, "a")
		impl.AttrOf(given, "href")
		impl.SameTokens(list, []impl.Token{other})
		impl.SameTokens(list[:1], list[1:])
		if wholeToken(given) != before || wholeToken(other) != before || shown(list[:3][2]) != shown(impl.Token{}) {
			t.Errorf("%s was changed", shown(token))
		}
		if shown(list[0]) != shown(token) || shown(list[1]) != shown(token) {
			t.Errorf("a list of %s was changed", shown(token))
		}
	}
}

// P1: what is written to an argument or to an answer is not seen in the other one.
func TestTagsShareNoMemory(t *testing.T) {
	for _, token := range goodTokens() {
		given := roomyToken(token)
		text := impl.WriteToken(given)
		var values []impl.BytesResult
		for _, a := range token.Attrs {
			values = append(values, impl.AttrOf(given, a.Name), impl.AttrOf(given, a.Name))
		}
		scribbleToken(given)
		if text.Text != tagText(token) {
			t.Errorf("WriteToken of %s: what is written to its argument is seen in the answer", shown(token))
		}
		for i, a := range token.Attrs {
			scribbleBytes(values[2*i].Bytes)
			if string(values[2*i+1].Bytes) != string(a.Value) {
				t.Errorf("AttrOf of %s: an answer shares memory", shown(token))
			}
		}
		given = roomyToken(token)
		for _, a := range token.Attrs {
			scribbleBytes(impl.AttrOf(given, a.Name).Bytes)
		}
		if shown(given) != shown(token) {
			t.Errorf("AttrOf of %s: what is written to the answer is seen in its argument", shown(token))
		}
	}
}

// P1: what ReadTag answers is written to without a trace in its text, or in what it answers again.
func TestReadTagsShareNoMemory(t *testing.T) {
	for _, token := range goodTokens() {
		if token.Kind == impl.TokByte {
			continue
		}
		text := tagText(token)
		given := strings.Clone(text)
		first, second := impl.ReadTag(given), impl.ReadTag(given)
		scribbleToken(first.Token)
		if given != text || shown(second.Token) != shown(token) {
			t.Errorf("ReadTag of %q: what is written to an answer is seen elsewhere", text)
		}
		wantTag(t, given, token)
	}
}

// P1: no two Values of one answer share memory, not even the room behind them.
func TestReadValuesShareNoMemory(t *testing.T) {
	text := "<a b=\"xxxx\" c=\"xxxx\" b=\"yyyy\" d=\"&lt;&gt;\" e=\"\" f=\"z\">"
	want := tagIn(text).Token
	for i := range want.Attrs {
		got := impl.ReadTag(text).Token
		scribbleBytes(got.Attrs[i].Value)
		got.Attrs[i].Value = append(got.Attrs[i].Value, "0123456789"...)
		for j, a := range got.Attrs {
			if j != i && string(a.Value) != string(want.Attrs[j].Value) {
				t.Errorf("ReadTag of %q: what is written to value %d is seen in value %d", text, i, j)
			}
		}
	}
}

// P1: a name that is read is memory of its own, as every answer is.
func TestReadNamesShareNoMemory(t *testing.T) {
	for _, text := range []string{"<name attr=\"value\"/>", "</name>"} {
		given := strings.Clone(text)
		token := impl.ReadTag(given).Token
		names := []string{token.Name}
		for _, a := range token.Attrs {
			names = append(names, a.Name)
		}
		from := uintptr(unsafe.Pointer(unsafe.StringData(given)))
		for _, name := range names {
			at := uintptr(unsafe.Pointer(unsafe.StringData(name)))
			if at >= from && at < from+uintptr(len(given)) {
				t.Errorf("ReadTag of %q: the name %q lies in its text", text, name)
			}
		}
	}
}

// P1: nil and an empty list are the same value, wherever one stands.
func TestNoAttributesAreNothing(t *testing.T) {
	lists := [][]impl.Attr{nil, {}, make([]impl.Attr, 0, 5)}
	values := [][]byte{nil, {}, make([]byte, 0, 5)}
	for _, token := range []impl.Token{start("a"), shut("a"), end("a"), note(), byteToken(1)} {
		for _, attrs := range lists {
			same := token
			same.Attrs = attrs
			wantFault(t, same, impl.OK)
			wantWritten(t, same)
			wantAttr(t, same, "a", impl.BytesResult{Code: impl.ErrNone})
			for _, others := range lists {
				other := token
				other.Attrs = others
				if !impl.SameTokens([]impl.Token{same}, []impl.Token{other}) {
					t.Errorf("SameTokens of %s: no attributes are not the same as none", shown(token))
				}
			}
		}
	}
	for _, value := range values {
		token := start("a", impl.Attr{Name: "b", Value: value})
		wantFault(t, token, impl.OK)
		wantWritten(t, token)
		wantAttr(t, token, "b", impl.BytesResult{})
		for _, other := range values {
			if !impl.SameTokens([]impl.Token{token}, []impl.Token{start("a", impl.Attr{Name: "b", Value: other})}) {
				t.Errorf("SameTokens of %s: an empty value is not the same as none", shown(token))
			}
		}
	}
	for _, a := range [][]impl.Token{nil, {}, make([]impl.Token, 0, 5)} {
		if !impl.SameTokens(a, nil) || !impl.SameTokens(nil, a) || !impl.SameTokens(a, []impl.Token{}) {
			t.Error("SameTokens: no tokens are not the same as none")
		}
	}
}

// P1: what is answered hangs on the arguments alone, not on what was called ahead of it.
func TestTagsKeepNothing(t *testing.T) {
	parts := tagParts()
	tokens := append(goodTokens(), badTokens()...)
	for round := range uint32(3) {
		for seed := range uint32(200) {
			impl.ReadTag("<a b=\"" + mixed(parts, 3, seed+round))
			impl.WriteToken(tokens[int(seed+round)%len(tokens)])
			wantRead(t, "<a"+mixed(parts, int(seed%4), seed)+">")
			wantWritten(t, tokens[int(seed)%len(tokens)])
		}
	}
}
