package draw

import (
	"math"
	"math/rand"
	"slices"
	"testing"

	"downhaul/checks"
)

// P18.7: what it stands for stands for itself.
func TestStandsForItself(t *testing.T) {
	for _, x := range edges() {
		if p := Chance(x); !is(Chance(p), p) || !Same(Chance(p), p) {
			t.Errorf("Chance(%x) is %x, which stands for %x", math.Float64bits(x), p, Chance(p))
		}
		if d := Draw(x); !is(Draw(d), d) || !Same(Draw(d), d) {
			t.Errorf("Draw(%x) is %x, which stands for %x", math.Float64bits(x), d, Draw(d))
		}
	}
}

// P18.1, P18.2, P18.3: each call takes a chance, and a draw, as what it stands for.
func TestTakenAsWhatItStandsFor(t *testing.T) {
	weights := []float64{1, 0, 2, 0x1p900, math.Inf(1)}
	for _, x := range edges() {
		for _, y := range edges() {
			p, d := Chance(x), Draw(y)
			if Hit(x, y) != Hit(p, d) {
				t.Errorf("Hit(%x, %x) = %t", math.Float64bits(x), math.Float64bits(y), Hit(x, y))
			}
			if Pick(y, weights...) != Pick(d, weights...) || Delay(30, 50, y) != Delay(30, 50, d) {
				t.Errorf("a draw of %x is taken otherwise than %x", math.Float64bits(y), d)
			}
			if !is(Mix(x, y, 0.3), Mix(p, Chance(y), 0.3)) || !is(Mix(0.2, y, x), Mix(0.2, Chance(y), p)) {
				t.Errorf("chances of %x and %x are mixed otherwise than what they stand for", math.Float64bits(x), math.Float64bits(y))
			}
		}
	}
}

// P18.5: what is picked has a weight above 0, wherever it stands among others.
func TestPickedIsAboveZero(t *testing.T) {
	for _, d := range edges() {
		for _, w := range edges() {
			for _, v := range edges() {
				weights := []float64{minus, w, 0, v, math.NaN(), w, -1}
				switch at := Pick(d, weights...); {
				case at < 0 && (w > 0 || v > 0), at >= 0 && !(weights[at] > 0), at < -1, at >= len(weights):
					t.Fatalf("Pick(%x, %x) = %d", math.Float64bits(d), weights, at)
				}
			}
		}
	}
}

// bitsOf are the bits of numbers, also of those that are none.
func bitsOf(list []float64) []uint64 {
	var bits []uint64
	for _, x := range list {
		bits = append(bits, math.Float64bits(x))
	}
	return bits
}

// R4: weights handed in stay as they were, bit for bit, also behind their end, and what stands there does not count.
func TestPickLeavesWeights(t *testing.T) {
	list := append(edges(), 1, 2, math.Inf(1), math.Inf(1))
	was := bitsOf(list)
	for _, d := range edges() {
		for n := range list {
			got, alone := Pick(d, list[:n]...), Pick(d, slices.Clip(slices.Clone(list[:n]))...)
			if got != alone || got >= n {
				t.Errorf("Pick(%x) of the first %d is %d, and alone %d", math.Float64bits(d), n, got, alone)
			}
		}
	}
	if !slices.Equal(bitsOf(list), was) {
		t.Error(list)
	}
}

// P18.2: of very many weights.
func TestPickOfMany(t *testing.T) {
	const many = 1 << 20
	weights := slices.Repeat([]float64{1}, many)
	picks(t, []picking{{0, weights, 0}, {0.5, weights, many / 2}, {greatest, weights, many - 1}, {1, append(make([]float64, many), least), many}})
	if got := Pick(1, make([]float64, many)...); got != -1 {
		t.Error(got)
	}
}

// question is what all calls are asked.
type question struct {
	a, b, c float64
	most    int
	weights []float64
}

// answer is what they answer, numbers by their bits.
type answer struct {
	chance, draw, mix, bits uint64
	hit, same               bool
	pick, delay             int
}

// answers asks all calls.
func answers(q question) answer {
	return answer{
		math.Float64bits(Chance(q.a)), math.Float64bits(Draw(q.b)), math.Float64bits(Mix(q.a, q.b, q.c)), Bits(q.a),
		Hit(q.a, q.b), Same(q.b, q.c),
		Pick(q.a, q.weights...), Delay(q.b, q.most, q.c),
	}
}

// R1, R3: what is answered hangs on the arguments alone, whatever they are, and whatever was asked ahead.
func TestSameAgain(t *testing.T) {
	chance := rand.New(rand.NewSource(1804))
	checks.Again(20000, func() question {
		return question{anyNumber(chance), anyNumber(chance), anyNumber(chance), anyMost(chance), anyWeights(chance)}
	}, answers, func(q question, first, then answer) {
		t.Errorf("%v: %v, and then %v", q, first, then)
	})
}

// R2: no number that is answered is minus 0, or none, whatever is asked.
func TestNoMinusZero(t *testing.T) {
	for _, a := range edges() {
		for _, b := range edges() {
			for _, c := range []float64{Chance(a), Draw(a), Mix(a, b, 0.5), Mix(a, b, a), Mix(0.5, a, b), Mix(minus, a, minus), Mix(a, minus, 1)} {
				if math.Signbit(c) || c != c {
					t.Errorf("of %x and %x: %x", math.Float64bits(a), math.Float64bits(b), math.Float64bits(c))
				}
			}
		}
	}
}
