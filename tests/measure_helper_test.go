package tests

import (
	"fmt"
	"math/bits"
	"regexp"
	"slices"
	"strconv"
	"strings"
	"testing"

	"loop.example/g00606/impl"
)

// The bits of a binary64, told as numbers: no float is asked, so that none is held against itself.
const (
	minusBit = -1 << 63
	wideE    = 2047
	nanBits  = wideE<<52 | 1<<51
	infBits  = wideE << 52
)

// quarterTexts are the fractions, as few digits as may be, by quarters.
func quarterTexts() [4]string {
	return [4]string{"", ".25", ".5", ".75"}
}

// fractions are all digits behind a dot that are quarters.
func fractions() map[string]int64 {
	return map[string]int64{
		"0": 0, "00": 0, "000": 0,
		"25": 1, "250": 1,
		"5": 2, "50": 2, "500": 2,
		"75": 3, "750": 3,
	}
}

// bitsOfQuarters are those of n quarters: the highest one of n is the hidden one of F.
func bitsOfQuarters(minus bool, n int64) int64 {
	sign := int64(0)
	if minus {
		sign = minusBit
	}
	if n == 0 {
		return sign
	}
	top := int64(bits.Len64(uint64(n)) - 1)
	return sign | (1023+top-2)<<52 | (n-1<<top)<<(52-top)
}

func bitsOfParts(minus bool, whole int64, quarters int64) int64 {
	return bitsOfQuarters(minus, 4*whole+quarters)
}

func textOfParts(minus bool, whole int64, quarters int64) string {
	text := fmt.Sprint(whole) + quarterTexts()[quarters]
	if minus {
		return "-" + text
	}
	return text
}

// eachMeasure tells the parts of each number of quarters, with Minus and without it.
func eachMeasure(tell func(minus bool, whole int64, quarters int64)) {
	for whole := range int64(impl.MaxMeasure + 1) {
		for quarters := range int64(4) {
			tell(false, whole, quarters)
			tell(true, whole, quarters)
		}
	}
}

func allMeasures() map[int64]impl.PartsResult {
	all := map[int64]impl.PartsResult{}
	eachMeasure(func(minus bool, whole int64, quarters int64) {
		all[bitsOfParts(minus, whole, quarters)] = impl.PartsResult{Minus: minus, Whole: whole, Quarters: quarters}
	})
	return all
}

// measures is worked out once: tests ask it very often.
var measures = allMeasures()

// The answers that the document asks of bits, whatever they are.

func partsOf(bits int64) impl.PartsResult {
	if parts, is := measures[bits]; is {
		return parts
	}
	if bits>>52&wideE == wideE {
		return impl.PartsResult{Code: impl.ErrNone}
	}
	return impl.PartsResult{Code: impl.ErrRange}
}

func textOfBits(bits int64) impl.TextResult {
	switch parts := partsOf(bits); {
	case parts.Code == impl.OK:
		return impl.TextResult{Text: textOfParts(parts.Minus, parts.Whole, parts.Quarters)}
	case parts.Code == impl.ErrRange:
		return impl.TextResult{Code: impl.ErrRange}
	case bits&(1<<52-1) != 0:
		return impl.TextResult{Text: "nan"}
	case bits < 0:
		return impl.TextResult{Text: "-inf"}
	}
	return impl.TextResult{Text: "inf"}
}

func isWidth(bits int64) bool {
	parts := partsOf(bits)
	return parts.Code == impl.OK && (!parts.Minus || parts.Whole == 0 && parts.Quarters == 0)
}

func wantBits(t *testing.T, bits int64) {
	t.Helper()
	if got, want := impl.MeasureParts(bits), partsOf(bits); got != want {
		t.Errorf("MeasureParts of %#x: got %+v, want %+v", uint64(bits), got, want)
	}
	if got, want := impl.MeasureText(bits), textOfBits(bits); got != want {
		t.Errorf("MeasureText of %#x: got %+v, want %+v", uint64(bits), got, want)
	}
	if got, want := impl.IsWidth(bits), isWidth(bits); got != want {
		t.Errorf("IsWidth of %#x: got %v, want %v", uint64(bits), got, want)
	}
}

// measureForm is what a number may look like, its fraction of quarters or not.
var measureForm = regexp.MustCompile(`^(-?)([0-9]{1,4})(?:\.([0-9]{1,3}))?$`)

// measureIn is what the document asks of a text, whatever it is.
func measureIn(text string) impl.IntResult {
	fixed := map[string]int64{"nan": nanBits, "inf": infBits, "-inf": minusBit | infBits}
	if bits, is := fixed[text]; is {
		return impl.IntResult{Value: bits}
	}
	found := measureForm.FindStringSubmatch(text)
	// The $ of a form may stand ahead of a line feed elsewhere, so the whole of it is asked.
	if found == nil || len(found[0]) != len(text) {
		return impl.IntResult{Code: impl.ErrText}
	}
	whole, err := strconv.ParseInt(found[2], 10, 64)
	if err != nil {
		return impl.IntResult{Code: impl.ErrText}
	}
	quarters, are := fractions()[found[3]]
	if !are && found[3] != "" {
		return impl.IntResult{Code: impl.ErrText}
	}
	return impl.IntResult{Value: bitsOfParts(found[1] == "-", whole, quarters)}
}

// widthIn is what the document asks of the text of a width, whatever it is.
func widthIn(text string) impl.TextResult {
	measure := measureIn(text)
	if measure.Code != impl.OK {
		return impl.TextResult{Code: measure.Code}
	}
	if !isWidth(measure.Value) {
		return impl.TextResult{Code: impl.ErrRange}
	}
	return impl.TextResult{Text: strings.TrimPrefix(textOfBits(measure.Value).Text, "-")}
}

// wantMeasure holds a text against what the document asks of it, as a measure and as a width.
func wantMeasure(t *testing.T, text string) {
	t.Helper()
	if got, want := impl.MeasureOf(text), measureIn(text); got != want {
		t.Errorf("MeasureOf of %.40q: got %+v, want %+v", text, got, want)
	}
	if got, want := impl.WidthText(text), widthIn(text); got != want {
		t.Errorf("WidthText of %.40q: got %+v, want %+v", text, got, want)
	}
}

func wantMeasureOf(t *testing.T, text string, want impl.IntResult) {
	t.Helper()
	if got := impl.MeasureOf(text); got != want {
		t.Errorf("MeasureOf of %.40q: got %+v, want %+v", text, got, want)
	}
}

func wantWidth(t *testing.T, text string, want impl.TextResult) {
	t.Helper()
	if got := impl.WidthText(text); got != want {
		t.Errorf("WidthText of %.40q: got %+v, want %+v", text, got, want)
	}
}

// oddBits are bits of every kind: each E, with F at its ends and between, with Minus and without it.
func oddBits() []int64 {
	var all []int64
	for e := range int64(wideE + 1) {
		for _, f := range []int64{0, 1, 2, 3, 1 << 26, 1<<51 - 1, 1 << 51, 1<<51 + 1, 1<<52 - 2, 1<<52 - 1} {
			all = append(all, e<<52|f, minusBit|e<<52|f)
		}
	}
	slices.Sort(all)
	return all
}
