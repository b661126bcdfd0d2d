package tests

import (
	"math"
	"strings"
	"testing"

	"loop.example/g00606/impl"
)

// noMeasures are texts that are none, each one close to one that is.
func noMeasures() []string {
	return []string{
		"", "-", ".", "-.", "+", "+1", "--1", "1-", "-+1", ".5", "-.5", "1.", "-1.", "1..5", "1.5.", "1.5.5",
		"1e1", "1e0", "1E1", "0x1", "0x1p0", "0b1", "1_0", "1,5", "Inf", "INF", "-Inf", "+inf", "infinity", "inf ", " inf", "--inf", "in", "inf0", "0inf",
		"NaN", "-nan", "+nan", "nan ", " nan", "nanu", "na", "nan0", "nan.5", "inf.5",
		" 1", "1 ", "1 .5", "1. 5", "- 1", "\t1", "1\n", "\n", "1\x00", "\x001",
		"10000", "00000", "00001", "-10000", "99999", "10000.5", "09999.0",
		"1.0000", "1.2500", "1.5000", "1.7500", "0.0000",
		"1.1", "1.2", "1.3", "1.4", "1.6", "1.7", "1.8", "1.9", "1.01", "1.05", "1.20", "1.26", "1.24", "1.52", "1.70", "1.74", "1.76", "1.99",
		"1.001", "1.025", "1.075", "1.125", "1.249", "1.251", "1.499", "1.501", "1.749", "1.751", "1.999", "0.001", "9999.999",
		"１", "1·5", "-\u0661", "\xff", "½",
	}
}

func TestWrongTexts(t *testing.T) {
	digits := strings.Repeat("1", 100000)
	many := []string{digits, "1." + digits, digits + ".5", "-" + digits, strings.Repeat("0", 100000), strings.Repeat("-", 100000), strings.Repeat(".", 100000), "1." + strings.Repeat("0", 100000)}
	for _, text := range append(noMeasures(), many...) {
		wantMeasureOf(t, text, impl.IntResult{Code: impl.ErrText})
		wantWidth(t, text, impl.TextResult{Code: impl.ErrText})
	}
}

// The texts that the document's words name, with what they are.
func TestTextsByName(t *testing.T) {
	one := int64(1023) << 52
	for text, bits := range map[string]int64{
		"0": 0, "-0": minusBit, "0.0": 0, "-0.00": minusBit, "0000": 0, "-0000.000": minusBit,
		"1": one, "-1": minusBit | one, "01": one, "001": one, "0001": one, "0001.000": one,
		"0.25": 1021 << 52, "0.250": 1021 << 52, "00.25": 1021 << 52,
		"0.5": 1022 << 52, "0.50": 1022 << 52, "0.500": 1022 << 52,
		"0.75": 1022<<52 | 1<<51, "0.750": 1022<<52 | 1<<51,
		"1.5": one | 1<<51, "-1.50": minusBit | one | 1<<51,
		"9999.75": bitsOfQuarters(false, 39999), "-9999.750": bitsOfQuarters(true, 39999),
	} {
		wantMeasureOf(t, text, impl.IntResult{Value: bits})
		wantMeasure(t, text)
	}
}

// 0 has two signs, one width, and one text as that.
func TestZeroWithMinus(t *testing.T) {
	same := func(got, want any) {
		t.Helper()
		if got != want {
			t.Errorf("got %+v, want %+v", got, want)
		}
	}
	same(impl.BitsOf(false, 0, 0), impl.IntResult{})
	same(impl.BitsOf(true, 0, 0), impl.IntResult{Value: math.MinInt64})
	same(impl.MeasureParts(0), impl.PartsResult{})
	same(impl.MeasureParts(math.MinInt64), impl.PartsResult{Minus: true})
	same(impl.MeasureText(0), impl.TextResult{Text: "0"})
	same(impl.MeasureText(math.MinInt64), impl.TextResult{Text: "-0"})
	same(impl.IsWidth(0), true)
	same(impl.IsWidth(math.MinInt64), true)
	for _, text := range []string{"0", "-0", "00", "-0000", "0.0", "-0.0", "-0.000", "-0000.00"} {
		wantWidth(t, text, impl.TextResult{Text: "0"})
	}
	wantWidth(t, "-0.25", impl.TextResult{Code: impl.ErrRange})
}

// Every bit pattern of nan is one, with Minus too; beside it stands inf.
func TestEveryNan(t *testing.T) {
	fs := []int64{1, 1 << 51, 1<<51 | 1, 1<<51 - 1, 1<<52 - 1}
	for k := range 52 {
		fs = append(fs, 1<<k, 1<<52-1<<k)
	}
	for _, f := range fs {
		for _, bits := range []int64{infBits | f, minusBit | infBits | f} {
			if bits&(1<<52-1) == 0 {
				continue
			}
			if got := impl.MeasureText(bits); got != (impl.TextResult{Text: "nan"}) {
				t.Errorf("MeasureText of %#x: got %+v, want nan", uint64(bits), got)
			}
			wantBits(t, bits)
		}
	}
	for _, bits := range []int64{infBits, minusBit | infBits} {
		if got := impl.MeasureParts(bits); got != (impl.PartsResult{Code: impl.ErrNone}) || impl.IsWidth(bits) {
			t.Errorf("MeasureParts of %#x: got %+v", uint64(bits), got)
		}
	}
}

// Numbers that are no quarters, that are too great, and that are too small.
func TestOtherNumbers(t *testing.T) {
	smallest, greatest := int64(1), int64(infBits-1)
	others := []int64{smallest, 1<<52 - 1, 1 << 52, greatest, bitsOfQuarters(false, 40000), bitsOfQuarters(false, 40001), bitsOfQuarters(false, 1<<52), 1020 << 52, 1019 << 52, 1<<62 | 1}
	for _, x := range []float64{0.1, 0.2, 0.125, 0.375, 1.1, 2.3, 9999.76, 9999.875, 10000, 10000.25, 1e9, 1e300, 1 << 53, 1 << 62, 1 << 63, 1e-300, math.Pi} {
		others = append(others, int64(math.Float64bits(x)))
	}
	for _, bits := range others {
		for _, bits := range []int64{bits, minusBit | bits} {
			if got := impl.MeasureParts(bits); got != (impl.PartsResult{Code: impl.ErrRange}) {
				t.Errorf("MeasureParts of %#x: got %+v, want ErrRange alone", uint64(bits), got)
			}
			if got := impl.MeasureText(bits); got != (impl.TextResult{Code: impl.ErrRange}) {
				t.Errorf("MeasureText of %#x: got %+v, want ErrRange alone", uint64(bits), got)
			}
			if impl.IsWidth(bits) {
				t.Errorf("IsWidth of %#x", uint64(bits))
			}
		}
	}
}

// Bits of every kind, and those next to each number of quarters.
func TestBitsOfEveryKind(t *testing.T) {
	for _, bits := range append(oddBits(), math.MaxInt64, math.MinInt64, math.MaxInt64-1, math.MinInt64+1, -1, 0, 1, -2, 2) {
		wantBits(t, bits)
	}
	for bits := range measures {
		wantBits(t, bits-1)
		wantBits(t, bits+1)
		wantBits(t, bits^1<<40)
	}
	seed := uint64(1)
	for range 20000 {
		seed = seed*6364136223846793005 + 1442695040888963407
		wantBits(t, int64(seed))
		wantBits(t, int64(seed&^(1<<62)|1023<<52))
	}
}

// The bounds of BitsOf, and what lies behind them.
func TestWrongParts(t *testing.T) {
	wholes := []int64{math.MinInt64, math.MinInt64 + 1, -1 << 32, -10000, -1, 0, 1, impl.MaxMeasure - 1, impl.MaxMeasure, impl.MaxMeasure + 1, 1 << 32, 1 << 53, math.MaxInt64 - 1, math.MaxInt64}
	quarters := []int64{math.MinInt64, math.MinInt64 + 1, -1 << 32, -4, -1, 0, 1, 2, 3, 4, 5, 8, 1 << 32, math.MaxInt64 - 1, math.MaxInt64}
	for _, whole := range wholes {
		for _, quarter := range quarters {
			for _, minus := range []bool{false, true} {
				want := impl.IntResult{Code: impl.ErrRange}
				if 0 <= whole && whole <= impl.MaxMeasure && 0 <= quarter && quarter <= 3 {
					want = impl.IntResult{Value: bitsOfParts(minus, whole, quarter)}
				}
				if got := impl.BitsOf(minus, whole, quarter); got != want {
					t.Errorf("BitsOf %v %d %d: got %+v, want %+v", minus, whole, quarter, got, want)
				}
			}
		}
	}
}

// P1: what is answered hangs on the arguments alone, not on what was called ahead of it.
func TestMeasuresKeepNothing(t *testing.T) {
	texts := append(noMeasures(), "0", "-0", "nan", "inf", "-inf", "1.50", "-1.5", "9999.75")
	for range 3 {
		for i, text := range texts {
			impl.MeasureOf(texts[len(texts)-1-i])
			impl.BitsOf(i%2 == 0, int64(i), int64(i%5))
			given := strings.Clone(text)
			wantMeasure(t, given)
			wantBits(t, measureIn(text).Value)
			if given != text {
				t.Errorf("%q was changed", text)
			}
		}
	}
}

// P1: a text that stands within a greater one is read by itself, and that is left as it is.
func TestMeasuresChangeNoArgument(t *testing.T) {
	for _, text := range []string{"1.5", "-0", "nan", "inf", "007", "1.2", ""} {
		around := "12" + text + "34"
		wantMeasure(t, around[2:2+len(text)])
		if around != "12"+text+"34" {
			t.Errorf("%q was changed", text)
		}
	}
}
