package draw

import (
	"math"
	"testing"
)

// greatest is the greatest draw: 1 - 2^-53.
const greatest = 0x1.fffffffffffffp-1

// least is the least number above 0.
const least = math.SmallestNonzeroFloat64

// minus is minus 0.
var minus = math.Copysign(0, -1)

// nones are numbers that are none: of each sign, and with other bits.
func nones() []float64 {
	var list []float64
	for _, b := range []uint64{
		0x7FF0000000000001, 0x7FF4000000000000, 0x7FF7FFFFFFFFFFFF, 0x7FF8000000000000, 0x7FF8000000000001, 0x7FF8000000000002, 0x7FFFFFFFFFFFFFFF,
		0xFFF0000000000001, 0xFFF8000000000000, 0xFFF8000000000001, 0xFFFFFFFFFFFFFFFF,
	} {
		list = append(list, math.Float64frombits(b))
	}
	return list
}

// belows are numbers that are not above 0, the first ones of which are none.
func belows() []float64 {
	return append(nones(), 0, minus, -least, -0x1p-1022, -0x1p-53, -0.25, -0.5, -greatest, -1, -2, -0x1p900, -math.MaxFloat64, math.Inf(-1))
}

// withins are numbers above 0 and below 1.
func withins() []float64 {
	return []float64{least, 2 * least, 0x1p-1022, 0x1p-60, 0x1p-54, 0x1p-53, 0x1p-52, 0.001, 0.1, 0.25, 0.3, 1.0 / 3, 0.5, 0x1.0000000000001p-1, 0.7, 0.9, 0x1.ffffffffffffep-1, greatest}
}

// aboves are numbers from 1 on.
func aboves() []float64 {
	return []float64{1, 0x1.0000000000001p0, 1.5, 2, 3, 0x1p53, 0x1p63, 0x1p899, 0x1.fffffffffffffp899, 0x1p900, 0x1.0000000000001p900, 0x1p1000, 0x1p1023, math.MaxFloat64, math.Inf(1)}
}

// edges are numbers at which something turns, and some between.
func edges() []float64 { return append(append(belows(), withins()...), aboves()...) }

// is tells whether two numbers have the same bits, those that are none among them.
func is(a, b float64) bool { return math.Float64bits(a) == math.Float64bits(b) }

// P18.1, R2: what a chance stands for: plus 0, 1, or itself.
func TestChance(t *testing.T) {
	for _, p := range belows() {
		if got := Chance(p); !is(got, 0) {
			t.Errorf("Chance(%x) = %x", math.Float64bits(p), got)
		}
	}
	for _, p := range withins() {
		if got := Chance(p); !is(got, p) {
			t.Errorf("Chance(%x) = %x", p, got)
		}
	}
	for _, p := range aboves() {
		if got := Chance(p); !is(got, 1) {
			t.Errorf("Chance(%x) = %x", p, got)
		}
	}
}

// P18.1, R2: what a draw stands for: plus 0, the greatest one below 1, or itself.
func TestDraw(t *testing.T) {
	for _, d := range belows() {
		if got := Draw(d); !is(got, 0) {
			t.Errorf("Draw(%x) = %x", math.Float64bits(d), got)
		}
	}
	for _, d := range withins() {
		if got := Draw(d); !is(got, d) {
			t.Errorf("Draw(%x) = %x", d, got)
		}
	}
	for _, d := range aboves() {
		if got := Draw(d); !is(got, greatest) {
			t.Errorf("Draw(%x) = %x", d, got)
		}
	}
}

// P18.1: the greatest draw is 1 - 2^-53, and none is between it and 1.
func TestGreatest(t *testing.T) {
	for _, d := range []float64{1, 7, math.Inf(1), 1 - 0x1p-53} {
		if got := Draw(d); got != 1-0x1p-53 || math.Nextafter(got, 2) != 1 {
			t.Errorf("Draw(%x) = %x", d, got)
		}
	}
	if got := Draw(1 - 0x1p-52); got != 1-0x1p-52 || math.Nextafter(got, 2) != greatest {
		t.Errorf("%x", got)
	}
}

// P18.1: a number's bits; those of all that are none are the same.
func TestBits(t *testing.T) {
	for _, x := range nones() {
		if b := Bits(x); b != 0x7FF8000000000001 {
			t.Errorf("Bits(%x) = %x", math.Float64bits(x), b)
		}
	}
	for _, c := range []struct {
		x    float64
		want uint64
	}{
		{0, 0},
		{minus, 0x8000000000000000},
		{least, 1},
		{-least, 0x8000000000000001},
		{0x1p-1022, 0x0010000000000000},
		{0x1.ffffffffffffep-1023, 0x000FFFFFFFFFFFFF},
		{0.1, 0x3FB999999999999A},
		{0.5, 0x3FE0000000000000},
		{greatest, 0x3FEFFFFFFFFFFFFF},
		{1, 0x3FF0000000000000},
		{-1, 0xBFF0000000000000},
		{2, 0x4000000000000000},
		{0x1p900, 0x7830000000000000},
		{math.MaxFloat64, 0x7FEFFFFFFFFFFFFF},
		{-math.MaxFloat64, 0xFFEFFFFFFFFFFFFF},
		{math.Inf(1), 0x7FF0000000000000},
		{math.Inf(-1), 0xFFF0000000000000},
	} {
		if b := Bits(c.x); b != c.want {
			t.Errorf("Bits(%x) = %x, not %x", c.x, b, c.want)
		}
	}
}

// P18.1: whether both have the same bits: plus and minus 0 have not; all that are no numbers have.
func TestSame(t *testing.T) {
	for _, a := range nones() {
		for _, b := range nones() {
			if !Same(a, b) {
				t.Errorf("%x and %x are none", math.Float64bits(a), math.Float64bits(b))
			}
		}
	}
	for i, a := range edges() {
		for j, b := range edges() {
			want := i == j || a != a && b != b
			if got := Same(a, b); got != want {
				t.Errorf("Same(%x, %x) = %t", math.Float64bits(a), math.Float64bits(b), got)
			}
		}
	}
	for _, x := range edges() {
		if next := math.Nextafter(x, 0); x == x && x != 0 && (Same(x, next) || Same(x, -x) || Same(next, x)) {
			t.Errorf("%x, the next one, and %x, are not the same", x, -x)
		}
	}
}

// P18.2: whether the draw is below the chance; the chapter's example.
func TestHit(t *testing.T) {
	for _, c := range []struct {
		p, d float64
		want bool
	}{
		{1, math.Inf(1), true},
		{math.NaN(), 0, false},
		// A chance of 0, and the least draw; a chance of 1, and the greatest.
		{0, 0, false}, {minus, 0, false}, {0, minus, false}, {-1, -1, false}, {math.Inf(-1), math.Inf(-1), false}, {0, math.NaN(), false}, {-1, -2, false},
		{1, greatest, true}, {1, 1, true}, {1, 2, true}, {math.Inf(1), math.Inf(1), true}, {2, 3, true}, {2, 1, true},
		// The least chance above 0.
		{least, 0, true}, {least, least, false}, {least, math.NaN(), true}, {least, math.Inf(-1), true}, {2 * least, least, true},
		// A draw that is just the chance, just below it, and just above it.
		{0.5, 0.5, false}, {0.5, 0x1.fffffffffffffp-2, true}, {0.5, 0x1.0000000000001p-1, false},
		{0.1, 0.1, false}, {0.1, math.Nextafter(0.1, 0), true}, {0.1, math.Nextafter(0.1, 1), false},
		{greatest, greatest, false}, {greatest, 1, false}, {greatest, math.Inf(1), false}, {greatest, 0x1.ffffffffffffep-1, true},
		{0.25, 0.1, true}, {0.25, 0.9, false}, {0.25, math.NaN(), true}, {0.25, math.Inf(1), false}, {math.NaN(), math.NaN(), false},
	} {
		if got := Hit(c.p, c.d); got != c.want {
			t.Errorf("Hit(%x, %x) = %t", c.p, c.d, got)
		}
	}
}

// P18.2: of draws that lie evenly as many hit as the chance has of them.
func TestHitsByTheChance(t *testing.T) {
	for _, p := range []float64{0, 0.125, 0.25, 0.5, 0.75, 1} {
		hits := 0
		for k := range 1024 {
			if Hit(p, float64(k)/1024) {
				hits++
			}
		}
		if hits != int(1024*p) {
			t.Errorf("%v: %d of 1024", p, hits)
		}
	}
}

// P18.4: a chance of 0 is never hit, one of 1 always; so all that stand for these.
func TestNeverAndAlways(t *testing.T) {
	for _, d := range edges() {
		for _, p := range belows() {
			if Hit(p, d) {
				t.Errorf("Hit(%x, %x) = true", math.Float64bits(p), math.Float64bits(d))
			}
		}
		for _, p := range aboves() {
			if !Hit(p, d) {
				t.Errorf("Hit(%x, %x) = false", p, math.Float64bits(d))
			}
		}
	}
}
