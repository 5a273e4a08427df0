package draw

import (
	"math"
	"testing"
)

// delaying is what a delay hangs on, and the delay.
type delaying struct {
	mean float64
	most int
	d    float64
	want int
}

// delays holds delays.
func delays(t *testing.T, list []delaying) {
	t.Helper()
	for _, c := range list {
		if got := Delay(c.mean, c.most, c.d); got != c.want {
			t.Errorf("Delay(%x, %d, %x) = %d, not %d", c.mean, c.most, c.d, got, c.want)
		}
	}
}

// P18.3: no delay, where most is below 1, or the mean is no number, or not above 0.
func TestNoDelay(t *testing.T) {
	for _, d := range edges() {
		for _, mean := range edges() {
			for _, most := range []int{0, -1, -60000, math.MinInt} {
				delays(t, []delaying{{mean, most, d, 0}})
			}
		}
		for _, mean := range belows() {
			for _, most := range []int{1, 2, 60000, 1 << 53, math.MaxInt} {
				delays(t, []delaying{{mean, most, d, 0}})
			}
		}
	}
}

// P18.3: twice the mean, times the draw, its whole part, and 1.
func TestDelay(t *testing.T) {
	delays(t, []delaying{
		{5, 100, 0, 1}, {5, 100, 0.05, 1}, {5, 100, math.Nextafter(0.1, 0), 1}, {5, 100, 0.1, 2}, {5, 100, 0.25, 3}, {5, 100, 0.5, 6}, {5, 100, 0.9, 10}, {5, 100, greatest, 10},
		{0.25, 100, greatest, 1}, {0.5, 100, greatest, 1}, {0.75, 100, greatest, 2}, {0.75, 100, 0.5, 1}, {1, 100, 0.5, 2}, {1, 100, 0.4, 1}, {1.25, 100, greatest, 3}, {1.5, 100, greatest, 3},
		{math.Pi, 100, 0.5, 4}, {math.Pi, 100, greatest, 7}, {12345.678, 60000, 0.5, 12346}, {12345.678, 60000, greatest, 24692},
		// Draws that stand for others.
		{5, 100, math.NaN(), 1}, {5, 100, minus, 1}, {5, 100, -3, 1}, {5, 100, math.Inf(-1), 1}, {5, 100, 1, 10}, {5, 100, 2, 10}, {5, 100, math.Inf(1), 10},
		// The least mean, and the least draw.
		{least, 1, greatest, 1}, {least, 60000, greatest, 1}, {least, math.MaxInt, 0, 1}, {5, 100, least, 1}, {math.MaxFloat64, math.MaxInt, least, 1}, {0x1p-1022, 7, 0.5, 1},
	})
}

// P18.3: twice the mean is at most most, ahead of what it is times.
func TestDelayAtMost(t *testing.T) {
	delays(t, []delaying{
		// Just below most, at most, and just above it.
		{29999.999, 60000, greatest, 60000}, {30000, 60000, greatest, 60000}, {30000.001, 60000, greatest, 60000}, {29999.5, 60000, greatest, 59999},
		{29999.999, 60000, 0.5, 30000}, {30000, 60000, 0.5, 30001}, {30000.001, 60000, 0.5, 30001}, {4.5, 10, 0.5, 5}, {5, 10, 0.5, 6}, {5.5, 10, 0.5, 6}, {50, 10, 0.5, 6},
		{math.Nextafter(5, 0), 10, 0.5, 5}, {math.Nextafter(5, 6), 10, 0.5, 6}, {5, 9, greatest, 9}, {5, 11, greatest, 10}, {5.5, 10, greatest, 10},
		// At most most by what it is times alone would be most.
		{50, 60, 0.5, 31}, {50, 60, 0.75, 46}, {1000, 60, 0.1, 7}, {1e300, 60000, 0.25, 15001},
		// Of 1 there is no other delay.
		{least, 1, 0.5, 1}, {0.5, 1, greatest, 1}, {1, 1, greatest, 1}, {60000, 1, 0, 1}, {math.Inf(1), 1, 1, 1}, {math.MaxFloat64, 1, 0.5, 1},
		// What is infinite, and what is so twice.
		{math.Inf(1), 60000, 0, 1}, {math.Inf(1), 60000, 0.5, 30001}, {math.Inf(1), 60000, 1, 60000}, {math.MaxFloat64, 60000, 0.5, 30001}, {0x1p1023, 60000, greatest, 60000}, {0x1p1023, 2, 0.5, 2},
		{0x1.fffffffffffffp1022, 60000, 0.5, 30001}, {math.Inf(1), 2, 0.5, 2}, {math.Inf(1), 2, 0.4, 1},
	})
}

// P18.3, P18.6: of the greatest int, and others that no float64 is: at most most, and no number leaves its type.
func TestDelayOfGreatMosts(t *testing.T) {
	delays(t, []delaying{
		{math.Inf(1), math.MaxInt, 0, 1}, {math.Inf(1), math.MaxInt, 0.5, 1<<62 + 1}, {math.Inf(1), math.MaxInt, 0.25, 1<<61 + 1}, {math.MaxFloat64, math.MaxInt, greatest, 1<<63 - 1023}, {math.Inf(1), math.MaxInt, 1, 1<<63 - 1023},
		{5, math.MaxInt, greatest, 10}, {0x1p62, math.MaxInt, greatest, 1<<63 - 1023}, {0x1p61, math.MaxInt, 0.5, 1<<61 + 1}, {0x1p63, math.MaxInt, 0x1p-63, 2}, {0x1p63, math.MaxInt, 0x1p-64, 1},
		{0x1p70, math.MaxInt - 1, 1, 1<<63 - 1023}, {0x1p70, 1<<63 - 1024, 1, 1<<63 - 2047}, {0x1p70, 1<<63 - 1023, 1, 1<<63 - 2047}, {0x1p70, 1<<63 - 512, 1, 1<<63 - 1023}, {0x1p70, 1<<63 - 513, 1, 1<<63 - 2047},
		{0x1p70, 1 << 53, 1, 1 << 53}, {0x1p70, 1<<53 - 1, 1, 1<<53 - 1}, {0x1p70, 1<<53 + 1, 1, 1 << 53}, {0x1p70, 1<<53 + 2, 1, 1<<53 + 1}, {0x1p70, 1<<53 + 3, 1, 1<<53 + 3}, {0x1p70, 1<<53 + 3, 0.5, 1<<52 + 3},
		{0x1p70, 1<<54 + 7, 1, 1<<54 + 5}, {0x1p70, 1<<54 + 6, 1, 1<<54 + 5}, {0x1p70, 1<<54 + 5, 1, 1<<54 + 1},
	})
}

// P18.3: each step is rounded by itself: what is rounded up to a whole number has it as its whole part.
func TestDelayRounds(t *testing.T) {
	delays(t, []delaying{
		// A third is less than that as a float64, but three of it are 1; so are ten times 0.3 just 3.
		{1.5, 10, 1.0 / 3, 2}, {5, 10, 0.3, 4}, {5, 10, 0.7, 8}, {50, 100, 0.07, 8},
		// Of a hundred 0.29 and 0.57 are rounded to less.
		{50, 100, 0.29, 29}, {50, 100, 0.57, 57},
		// The greatest draw takes a bit from each number that is no power of 2, and half a bit from each that is.
		{0x1.0000000000001p-1, 10, greatest, 2}, {0x1.0000000000001p0, 10, greatest, 3}, {0x1p52, 1 << 60, greatest, 1 << 53}, {0x1.8p53, 1 << 60, greatest, 3<<53 - 3},
	})
}

// P18.6: a delay is from 0 to most; it is from 1 on, where there may be one.
func TestDelayIsInItsRange(t *testing.T) {
	mosts := []int{math.MinInt, -1, 0, 1, 2, 3, 10, 60000, 1<<31 - 1, 1 << 31, 1<<53 - 1, 1 << 53, 1<<53 + 1, 1<<53 + 3, 1<<54 + 6, 1<<62 + 1, 1<<63 - 1025, 1<<63 - 513, 1<<63 - 512, math.MaxInt - 1, math.MaxInt}
	for _, mean := range append(edges(), 10, 30000, 29999.5, 1e9, 0x1p52, 0x1.8p53, 0x1p62) {
		for _, d := range edges() {
			for _, most := range mosts {
				from, to := 1, most
				if most < 1 || !(mean > 0) {
					from, to = 0, 0
				}
				if got := Delay(mean, most, d); got < from || got > to {
					t.Errorf("Delay(%x, %d, %x) = %d, not from %d to %d", mean, most, d, got, from, to)
				}
			}
		}
	}
}

// P18.3: of draws that lie evenly each delay up to twice the mean is as frequent, and it is the mean and a half in the midst.
func TestDelayByTheMean(t *testing.T) {
	told, sum := map[int]int{}, 0
	for k := range 1000 {
		n := Delay(5, 60000, (float64(k)+0.5)/1000)
		told[n]++
		sum += n
	}
	for n := 1; n <= 10; n++ {
		if told[n] != 100 {
			t.Errorf("%d came %d times", n, told[n])
		}
	}
	if sum != 5500 {
		t.Error(sum)
	}
}
