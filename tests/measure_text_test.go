package tests

import (
	"fmt"
	"math"
	"strings"
	"testing"

	"loop.example/g00606/impl"
)

// P4: every number of quarters has bits, parts, and a text that is read back to the same bits.
func TestMeasuresAreReadBack(t *testing.T) {
	eachMeasure(func(minus bool, whole int64, quarters int64) {
		bits := bitsOfParts(minus, whole, quarters)
		if got := impl.BitsOf(minus, whole, quarters); got != (impl.IntResult{Value: bits}) {
			t.Errorf("BitsOf %v %d %d: got %+v, want %#x", minus, whole, quarters, got, uint64(bits))
		}
		wantBits(t, bits)
		wantMeasureOf(t, impl.MeasureText(bits).Text, impl.IntResult{Value: bits})
		wantMeasure(t, textOfParts(minus, whole, quarters))
	})
}

// The bits that this file's answers are held against are those of the machine's own floats.
func TestBitsAreThoseOfFloats(t *testing.T) {
	eachMeasure(func(minus bool, whole int64, quarters int64) {
		x := float64(whole) + float64(quarters)/4
		if minus {
			x = math.Copysign(x, -1)
		}
		if int64(math.Float64bits(x)) != bitsOfParts(minus, whole, quarters) {
			t.Errorf("%v %d %d has other bits", minus, whole, quarters)
		}
	})
}

// P4: what is no number of quarters, and yet a measure, is read back too.
func TestNanAndInfAreReadBack(t *testing.T) {
	for text, bits := range map[string]int64{"nan": nanBits, "inf": infBits, "-inf": minusBit | infBits} {
		wantMeasureOf(t, text, impl.IntResult{Value: bits})
		if got := impl.MeasureText(bits); got != (impl.TextResult{Text: text}) {
			t.Errorf("MeasureText of the bits of %s: got %+v", text, got)
		}
		wantBits(t, bits)
	}
	// F of 1 with 2^51 is the one that a library may have for its own.
	if impl.MeasureOf("nan").Value != 0x7ff8000000000000 {
		t.Errorf("nan has the bits %#x", impl.MeasureOf("nan").Value)
	}
}

// P4: a width has one text, which is its own; none is nan, inf or less than 0.
func TestWidthsHaveOneText(t *testing.T) {
	for whole := range int64(impl.MaxMeasure + 1) {
		for part, quarters := range fractions() {
			for _, pad := range []string{"%d", "%02d", "%03d", "%04d"} {
				text := fmt.Sprintf(pad, whole) + "." + part
				want := impl.TextResult{Text: textOfParts(false, whole, quarters)}
				wantWidth(t, text, want)
				wantWidth(t, want.Text, want)
				if whole != 0 || quarters != 0 {
					want = impl.TextResult{Code: impl.ErrRange}
				}
				wantWidth(t, "-"+text, want)
			}
		}
	}
	for _, text := range []string{"nan", "inf", "-inf", "-1", "-0.25", "-9999.75"} {
		wantWidth(t, text, impl.TextResult{Code: impl.ErrRange})
	}
}

// P4: two widths with one text are one number.
func TestNoTwoWidthsShareAText(t *testing.T) {
	seen := map[string]int64{}
	for bits := range measures {
		if !impl.IsWidth(bits) || bits < 0 {
			continue
		}
		text := impl.WidthText(impl.MeasureText(bits).Text).Text
		if other, is := seen[text]; is {
			t.Errorf("%#x and %#x have the text %q", bits, other, text)
		}
		seen[text] = bits
	}
	if len(seen) != 4*(impl.MaxMeasure+1) {
		t.Errorf("there are %d widths", len(seen))
	}
}

// P4: the whole is read with 0 ahead, in 1 to 4 digits; the fraction in 1 to 3, if they are quarters.
func TestDigitsOfEveryLength(t *testing.T) {
	for size := range 6 {
		for _, digit := range []string{"0", "1", "9"} {
			wantMeasure(t, strings.Repeat(digit, size))
			wantMeasure(t, "-"+strings.Repeat(digit, size)+".5")
		}
	}
	for _, whole := range []string{"0", "1", "07", "9999"} {
		for part := range 10000 {
			for _, pad := range []string{"%s.%d", "%s.%02d", "%s.%03d", "%s.%04d"} {
				wantMeasure(t, fmt.Sprintf(pad, whole, part))
			}
		}
	}
}

// P4: all short words of the bytes that a measure has, and of some that it has not.
func TestShortWordsAsMeasures(t *testing.T) {
	wordsUpTo("0275.-", 6, func(text string) { wantMeasure(t, text) })
	wordsUpTo("naif-1", 5, func(text string) { wantMeasure(t, text) })
	wordsUpTo("19.+-e_x \nI", 4, func(text string) { wantMeasure(t, text) })
	for b := range 256 {
		one := string([]byte{byte(b)})
		for _, text := range []string{one, one + "1", "1" + one, "1" + one + "5", "1." + one, "1.5" + one, "inf" + one, one + "nan"} {
			wantMeasure(t, text)
		}
	}
}
