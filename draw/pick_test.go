package draw

import (
	"math"
	"testing"
)

// picking is a draw, weights, and what is picked.
type picking struct {
	d       float64
	weights []float64
	want    int
}

// picks holds what is picked.
func picks(t *testing.T, list []picking) {
	t.Helper()
	for _, c := range list {
		if got := Pick(c.d, c.weights...); got != c.want {
			t.Errorf("Pick(%x, %x) = %d, not %d", c.d, c.weights, got, c.want)
		}
	}
}

// P18.2: none is picked, where there is none, or all weights are 0.
func TestPickNone(t *testing.T) {
	none, down := math.NaN(), math.Inf(-1)
	for _, d := range edges() {
		picks(t, []picking{
			{d, nil, -1}, {d, []float64{}, -1},
			{d, []float64{0}, -1}, {d, []float64{minus}, -1}, {d, []float64{none}, -1}, {d, []float64{-1}, -1}, {d, []float64{down}, -1}, {d, []float64{-least}, -1},
			{d, []float64{0, 0, 0}, -1}, {d, []float64{minus, minus}, -1}, {d, []float64{0, none, minus, -1, down, -math.MaxFloat64, 0}, -1},
			{d, belows(), -1}, {d, nones(), -1},
		})
	}
}

// P18.2: one weight above 0 is picked by all draws, wherever it stands.
func TestPickTheOnlyOne(t *testing.T) {
	for _, d := range edges() {
		for _, w := range append(withins(), aboves()...) {
			picks(t, []picking{
				{d, []float64{w}, 0}, {d, []float64{0, w}, 1}, {d, []float64{w, 0}, 0}, {d, []float64{minus, w, minus}, 1},
				{d, []float64{-w, math.NaN(), w, math.Inf(-1), 0}, 2}, {d, append(belows(), w), len(belows())}, {d, append([]float64{w}, belows()...), 0},
			})
		}
	}
}

// P18.2: the one at whose sum the product is passed for the first time, that is below it.
func TestPick(t *testing.T) {
	below := func(x float64) float64 { return math.Nextafter(x, 0) }
	picks(t, []picking{
		// A product that is just a sum does not pass it.
		{0.25, []float64{1, 3}, 1}, {below(0.25), []float64{1, 3}, 0}, {0, []float64{1, 3}, 0}, {greatest, []float64{1, 3}, 1},
		{0.5, []float64{1, 1}, 1}, {below(0.5), []float64{1, 1}, 0}, {0.25, []float64{1, 1, 1, 1}, 1}, {0.5, []float64{1, 1, 1, 1}, 2}, {0.75, []float64{1, 1, 1, 1}, 3},
		{below(0.75), []float64{1, 1, 1, 1}, 2}, {0.5, []float64{2, 1, 1}, 1}, {0.75, []float64{2, 1, 1}, 2},
		// Draws that stand for others.
		{math.NaN(), []float64{1, 3}, 0}, {math.Inf(1), []float64{1, 3}, 1}, {-1, []float64{1, 3}, 0}, {minus, []float64{1, 3}, 0}, {1, []float64{1, 3}, 1}, {7, []float64{1, 1, 1}, 2},
		// Weights of 0 at the beginning, in the midst, and at the end.
		{0, []float64{0, 1, 3}, 1}, {0, []float64{0, 0, 0, 2}, 3}, {0.25, []float64{1, 0, 3}, 2}, {0.5, []float64{1, 0, 0, 1}, 3}, {below(0.5), []float64{1, 0, 0, 1}, 0},
		{greatest, []float64{1, 3, 0}, 1}, {1, []float64{1, 3, 0, 0, minus}, 1}, {0, []float64{0, 1, 0, 1, 0}, 1}, {0.5, []float64{0, 1, 0, 1, 0}, 3}, {1, []float64{0, 1, 0, 1, 0}, 3},
		// Weights that stand for 0.
		{0, []float64{-5, 1, 3}, 1}, {0.25, []float64{1, -1, 3}, 2}, {0.25, []float64{1, math.NaN(), 3, math.NaN()}, 2}, {1, []float64{1, 3, math.Inf(-1)}, 1}, {0.5, []float64{1, -1, 1}, 2},
		{0.5, []float64{1, math.Inf(-1), 1}, 2}, {0.4, []float64{-100, 1, 1}, 1}, {0.6, []float64{1, 1, -2}, 1},
		// Weights that are not added to 1, and more than a few.
		{0.1, []float64{0.1, 0.1}, 0}, {0.6, []float64{0.1, 0.1}, 1}, {0.5, []float64{1, 2, 3, 4, 5, 6, 7, 8}, 5}, {0.3, []float64{50, 50, 50}, 0}, {0.4, []float64{50, 50, 50}, 1},
	})
}

// P18.2: plus infinity is 2^900; what is more, and no infinity, is itself.
func TestPickOfInfinity(t *testing.T) {
	up, huge := math.Inf(1), 0x1p900
	picks(t, []picking{
		{0, []float64{1, up}, 0}, {0.5, []float64{1, up}, 1}, {1, []float64{1, up}, 1}, {0, []float64{up, 1}, 0}, {1, []float64{up, 1}, 0},
		{0.5, []float64{up, up}, 1}, {0x1.fffffffffffffp-2, []float64{up, up}, 0}, {0.25, []float64{up, up, up, up}, 1}, {0.75, []float64{up, up, up, up}, 3},
		{0.5, []float64{huge, up}, 1}, {0.5, []float64{up, huge}, 1}, {0x1.fffffffffffffp-2, []float64{up, huge}, 0}, {0x1.fffffffffffffp-2, []float64{huge, up}, 0}, {0.75, []float64{up, huge}, 1},
		// 3 * 2^900 is more than infinity is: 2^900 by itself would have a half.
		{0.25, []float64{up, 3 * huge}, 1}, {0x1.fffffffffffffp-3, []float64{up, 3 * huge}, 0}, {0.5, []float64{up, 3 * huge}, 1}, {0.74, []float64{3 * huge, up}, 0}, {0.75, []float64{3 * huge, up}, 1},
		{0.4, []float64{up, 0x1.0000000000001p900}, 0}, {0.5, []float64{up, 0x1.0000000000001p900}, 1}, {0.5, []float64{0x1.0000000000001p900, up}, 0}, {0.5, []float64{up, 0x1.ffffffffffffep899}, 0},
		{0.99, []float64{up, 0x1p1000}, 1}, {0x1p-101, []float64{up, 0x1p1000}, 0}, {0x1p-100, []float64{up, 0x1p1000}, 1},
		{1, []float64{up, 0, up, 0}, 2}, {0.5, []float64{math.Inf(-1), up, math.Inf(-1), up}, 3},
	})
}

// P18.2: where the sum of all is infinite no sum passes the product, or it is no number: the last one above 0 is picked, by all draws.
func TestPickOfInfiniteSums(t *testing.T) {
	most, up := math.MaxFloat64, math.Inf(1)
	for _, d := range edges() {
		picks(t, []picking{
			{d, []float64{most, most}, 1}, {d, []float64{most, most, 0, minus}, 1}, {d, []float64{most, most, 1}, 2}, {d, []float64{1, most, most, -1}, 2}, {d, []float64{most, most, most, least, math.NaN()}, 3},
			{d, []float64{0x1p1023, 0x1p1023}, 1}, {d, []float64{0x1p1023, 0x1p1023, up, 0}, 2}, {d, []float64{most, 0x1p970}, 1}, {d, []float64{0, most, 0, most, 0}, 3}, {d, []float64{most, up, most}, 2},
		})
	}
	// Just not infinite: the greatest number takes in what is less than half of what it is rounded to.
	picks(t, []picking{
		{0, []float64{most, 0x1.fffffffffffffp969}, 0}, {greatest, []float64{most, 0x1.fffffffffffffp969}, 0}, {0.5, []float64{0x1p1022, 0x1p1022, 0x1p1022}, 1}, {0.9, []float64{0x1p1022, 0x1p1022, 0x1p1022}, 2},
		{0.5, []float64{most, up}, 0},
	})
}

// P18.2: a product that is rounded up to the sum of all passes none: the last one above 0 is picked.
func TestPickPassesNone(t *testing.T) {
	picks(t, []picking{
		{0.75, []float64{least}, 0}, {0.75, []float64{0, least, 0}, 1}, {greatest, []float64{least, 0}, 0}, {greatest, []float64{least, least, 0, -1}, 1}, {0.9, []float64{least, 0, 2 * least, 0}, 2},
		{0.75, []float64{least, least}, 1},
		// Half of the least number is rounded to 0, and half of three of it to two.
		{0.5, []float64{least}, 0}, {0.5, []float64{0, least}, 1}, {0.5, []float64{least, least, least}, 2}, {0.5, []float64{2 * least, least}, 1}, {0.4, []float64{least, least, least}, 1},
		{0.1, []float64{least, 3 * least}, 0}, {0.2, []float64{least, 3 * least}, 1},
	})
}

// P18.2: each sum is rounded by itself, from the first weight on: other orders would pick otherwise.
func TestPickRounds(t *testing.T) {
	picks(t, []picking{
		// 0.1 + 0.2 + 0.3 is 0.6 and a bit from the first on, and 0.6 from the last on; its half then is 0.1 + 0.2, or a bit less.
		{0.5, []float64{0.1, 0.2, 0.3}, 2}, {0.5, []float64{0.3, 0.2, 0.1}, 1},
		// 2^53 and 1 are 2^53: what follows singly is never picked, but together ahead of it.
		{greatest, []float64{0x1p53, 1, 1, 1, 1}, 0}, {greatest, []float64{1, 1, 1, 1, 0x1p53}, 4}, {0x1p-52, []float64{1, 1, 0x1p53}, 2}, {0x1p-53, []float64{1, 1, 0x1p53}, 1},
		// Ten tenths are a bit less than 1, so that 0.1 of them is below 0.1.
		{0.1, []float64{0.1, 0.1, 0.1, 0.1, 0.1, 0.1, 0.1, 0.1, 0.1, 0.1}, 0}, {0.2, []float64{0.1, 0.1, 0.1, 0.1, 0.1, 0.1, 0.1, 0.1, 0.1, 0.1}, 1},
		{0.3, []float64{0.1, 0.1, 0.1, 0.1, 0.1, 0.1, 0.1, 0.1, 0.1, 0.1}, 2}, {0.8, []float64{0.1, 0.1, 0.1, 0.1, 0.1, 0.1, 0.1, 0.1, 0.1, 0.1}, 8},
	})
}

// P18.2: of draws that lie evenly each weight has its share.
func TestPickByTheWeights(t *testing.T) {
	weights := []float64{100, 0, 200, math.NaN(), 300, -7, 424, 0}
	told := make([]int, len(weights))
	for k := range 1024 {
		told[Pick(float64(k)/1024, weights...)]++
	}
	for i, want := range []int{100, 0, 200, 0, 300, 0, 424, 0} {
		if told[i] != want {
			t.Errorf("%d was picked %d times, not %d", i, told[i], want)
		}
	}
}
