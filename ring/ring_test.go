package ring

import (
	"math"
	"math/big"
	"math/rand"
	"slices"
	"testing"

	"downhaul/api"
)

const (
	half = 1 << 31
	last = 1<<32 - 1
)

// edges are numbers at which something turns, and some between.
func edges() []uint32 {
	return []uint32{0, 1, 2, 3, 1000, half - 2, half - 1, half, half + 1, half + 2, 0xC0000000, last - 2, last - 1, last}
}

// longEdges are long numbers at which something turns, and some between.
func longEdges() []uint64 {
	var l []uint64
	for _, begin := range []uint64{0, 1 << 32, 5 << 32, 1 << 63, math.MaxUint64 - last} {
		for _, n := range edges() {
			l = append(l, begin+uint64(n))
		}
	}
	return l
}

// some are numbers by chance, the same ones in each run: half of them near an edge.
func some(r *rand.Rand) uint32 {
	if r.Intn(2) == 0 {
		return r.Uint32()
	}
	e := edges()
	return e[r.Intn(len(e))] + uint32(r.Intn(9)) - 4
}

// ahead is how far b is ahead of a, modulo 2^32, reckoned in numbers that do not go round.
func ahead(a, b uint32) int64 { return (int64(b) - int64(a) + turn) % turn }

// in tells whether n is in a window, so reckoned.
func in(n, begin, size uint32) bool { return ahead(begin, n) < int64(size) }

// P1.1: how far one is ahead, up to 2^31 apart, and round.
func TestDiff(t *testing.T) {
	for _, c := range []struct {
		a, b uint32
		want int32
	}{
		{0, 0, 0}, {7, 7, 0}, {last, last, 0},
		{0, 1, 1}, {1, 0, -1},
		{last, 1, 2}, {1, last, -2}, {last, 0, 1}, {0, last, -1},
		{0, half - 1, math.MaxInt32}, {half - 1, 0, -math.MaxInt32},
		{0, half, math.MinInt32}, {half, 0, math.MinInt32},
		{0, half + 1, -math.MaxInt32}, {half + 1, 0, math.MaxInt32},
		{last, half - 1, math.MinInt32}, {last, half - 2, math.MaxInt32},
	} {
		if d := Diff(c.a, c.b); d != c.want {
			t.Errorf("Diff(%d, %d) = %d, not %d", c.a, c.b, d, c.want)
		}
	}
	for _, a := range edges() {
		for _, b := range edges() {
			want := ahead(a, b)
			if want >= half {
				want -= turn
			}
			if d := Diff(a, b); int64(d) != want {
				t.Errorf("Diff(%d, %d) = %d, not %d", a, b, d, want)
			}
		}
	}
}

// P1.1: ahead by more than 0; of two 2^31 apart neither is before the other.
func TestBefore(t *testing.T) {
	for _, c := range []struct {
		a, b uint32
		want bool
	}{
		{5, 5, false}, {5, 6, true}, {6, 5, false},
		{last, 0, true}, {0, last, false},
		{0, half - 1, true}, {half - 1, 0, false},
		{0, half, false}, {half, 0, false},
		{0, half + 1, false}, {half + 1, 0, true},
	} {
		if got := Before(c.a, c.b); got != c.want {
			t.Errorf("Before(%d, %d) = %v", c.a, c.b, got)
		}
	}
}

// P1.1, R6: each that is ahead of what was taken so far is taken; a list that is nil is an empty one.
func TestMax(t *testing.T) {
	for _, c := range []struct {
		first uint32
		more  []uint32
		want  uint32
	}{
		{9, nil, 9},
		{9, []uint32{}, 9},
		{9, []uint32{9}, 9},
		{9, []uint32{8}, 9},
		{9, []uint32{10}, 10},
		{last, []uint32{3, 1}, 3},
		{3, []uint32{last, 1}, 3},
		{0, []uint32{5, 7, 6}, 7},
		{0, []uint32{half}, 0},
		{half, []uint32{0}, half},
		{0, []uint32{half, 1}, 1},
		// Held against what was taken so far, not against the first one.
		{0, []uint32{half - 1, half}, half},
		{5, []uint32{half + 4, last, 0, 4}, 4},
	} {
		if m := Max(c.first, c.more...); m != c.want {
			t.Errorf("Max(%d, %v) = %d, not %d", c.first, c.more, m, c.want)
		}
	}
}

// R4: the list that is handed in stays as it was, also behind its end.
func TestMaxLeavesList(t *testing.T) {
	list := []uint32{1, 7, 3, half, 2, 9, 9}
	was := slices.Clone(list)
	Max(0, list[:5]...)
	if !slices.Equal(list, was) {
		t.Error(list)
	}
}

// P1.1: windows, of size 0 and such that go round, too.
func TestIn(t *testing.T) {
	for _, c := range []struct {
		n, begin, size uint32
		want           bool
	}{
		{5, 5, 0, false}, {4, 5, 0, false}, {last, 0, 0, false},
		{5, 5, 1, true}, {4, 5, 1, false}, {6, 5, 1, false},
		{5, 5, 10, true}, {14, 5, 10, true}, {15, 5, 10, false}, {4, 5, 10, false},
		{last, last, 2, true}, {0, last, 2, true}, {1, last, 2, false}, {last - 1, last, 2, false},
		{half, 0, half, false}, {half - 1, 0, half, true}, {half, 0, half + 1, true},
		{6, 7, last, false}, {7, 7, last, true}, {5, 7, last, true},
		{last, 0, last, false}, {last - 1, 0, last, true},
	} {
		if got := In(c.n, c.begin, c.size); got != c.want {
			t.Errorf("In(%d, %d, %d) = %v", c.n, c.begin, c.size, got)
		}
	}
	for _, n := range edges() {
		for _, begin := range edges() {
			for _, size := range edges() {
				if got := In(n, begin, size); got != in(n, begin, size) {
					t.Errorf("In(%d, %d, %d) = %v", n, begin, size, got)
				}
			}
		}
	}
}

// P1.1: the window from behind a up to b.
func TestBetween(t *testing.T) {
	for _, c := range []struct {
		n, a, b uint32
		want    bool
	}{
		{5, 5, 6, false}, {6, 5, 6, true}, {7, 5, 6, false}, {4, 5, 6, false},
		{5, 5, 9, false}, {9, 5, 9, true}, {10, 5, 9, false}, {7, 5, 9, true},
		{last, last, 1, false}, {0, last, 1, true}, {1, last, 1, true}, {2, last, 1, false},
		{last, last - 1, last, true}, {0, last - 1, last, false},
		{half, 0, half, true}, {half + 1, 0, half, false}, {0, 0, half, false},
		// All but a.
		{5, 5, 4, false}, {4, 5, 4, true}, {6, 5, 4, true}, {half, 5, 4, true},
	} {
		if got := Between(c.n, c.a, c.b); got != c.want {
			t.Errorf("Between(%d, %d, %d) = %v", c.n, c.a, c.b, got)
		}
	}
	for _, n := range edges() {
		for _, a := range edges() {
			if Between(n, a, a) {
				t.Errorf("Between(%d, %d, %d)", n, a, a)
			}
			for _, b := range edges() {
				want := n != a && ahead(a, n) <= ahead(a, b)
				if got := Between(n, a, b); got != want {
					t.Errorf("Between(%d, %d, %d) = %v", n, a, b, got)
				}
			}
		}
	}
}

// overlap lays both runs on a line, the second one three times, a round apart.
func overlap(a, b api.Block) bool {
	for round := int64(-turn); round <= turn; round += turn {
		begin := max(int64(a.Left), int64(b.Left)+round)
		end := min(int64(a.Left)+ahead(a.Left, a.Right), int64(b.Left)+round+ahead(b.Left, b.Right))
		if begin < end {
			return true
		}
	}
	return false
}

// P1.1: runs that have a number in common; runs of no number have none.
func TestOverlap(t *testing.T) {
	for _, c := range []struct {
		a, b api.Block
		want bool
	}{
		{api.Block{Left: 1, Right: 5}, api.Block{Left: 1, Right: 5}, true},
		{api.Block{Left: 1, Right: 5}, api.Block{Left: 4, Right: 9}, true},
		{api.Block{Left: 1, Right: 5}, api.Block{Left: 5, Right: 9}, false},
		{api.Block{Left: 1, Right: 5}, api.Block{Left: 6, Right: 9}, false},
		{api.Block{Left: 1, Right: 9}, api.Block{Left: 3, Right: 5}, true},
		// Runs of no number.
		{api.Block{Left: 1, Right: 9}, api.Block{Left: 3, Right: 3}, false},
		{api.Block{Left: 1, Right: 9}, api.Block{Left: 1, Right: 1}, false},
		{api.Block{Left: 3, Right: 3}, api.Block{Left: 3, Right: 3}, false},
		{api.Block{}, api.Block{}, false},
		{api.Block{}, api.Block{Left: last, Right: 5}, false},
		// Runs that go round.
		{api.Block{Left: last, Right: 1}, api.Block{Left: 0, Right: 1}, true},
		{api.Block{Left: last, Right: 1}, api.Block{Left: 1, Right: 2}, false},
		{api.Block{Left: last, Right: 0}, api.Block{Left: 0, Right: 1}, false},
		{api.Block{Left: last - 5, Right: 0}, api.Block{Left: last, Right: 3}, true},
		// Two that fill the ring, and one that has a number of both.
		{api.Block{Left: 5, Right: half}, api.Block{Left: half, Right: 5}, false},
		{api.Block{Left: 5, Right: half}, api.Block{Left: half, Right: 6}, true},
		{api.Block{Left: 5, Right: half + 1}, api.Block{Left: half, Right: 5}, true},
		// The longest runs: all but one number.
		{api.Block{Left: 5, Right: 4}, api.Block{Left: 4, Right: 5}, false},
		{api.Block{Left: 5, Right: 4}, api.Block{Left: 9, Right: 8}, true},
	} {
		if got := Overlap(c.a, c.b); got != c.want {
			t.Errorf("Overlap(%v, %v) = %v", c.a, c.b, got)
		}
		if got := Overlap(c.b, c.a); got != c.want {
			t.Errorf("Overlap(%v, %v) = %v", c.b, c.a, got)
		}
	}
	r := rand.New(rand.NewSource(1))
	for range 200000 {
		a, b := api.Block{Left: some(r), Right: some(r)}, api.Block{Left: some(r), Right: some(r)}
		if got := Overlap(a, b); got != overlap(a, b) {
			t.Fatalf("Overlap(%v, %v) = %v", a, b, got)
		}
	}
}

// P1.2: the nearest one, and what would be below 0 or above 2^64 - 1.
func TestLong(t *testing.T) {
	const top = math.MaxUint64
	for _, c := range []struct {
		near uint64
		n    uint32
		want uint64
	}{
		{1<<32 + 5, last, last},
		{0, 0, 0}, {7, 7, 7}, {1<<32 + 7, 7, 1<<32 + 7},
		{1<<32 - 1, 0, 1 << 32},
		// As far as it goes, on both sides.
		{1 << 33, half, 1<<33 - half}, {1 << 33, half - 1, 1<<33 + half - 1},
		{1<<33 + 5, half + 5, 1<<33 + 5 - half}, {1<<33 + 5, half + 4, 1<<33 + half + 4},
		// Down to 0, and below.
		{half, 0, 0}, {half - 1, 0, 0}, {half - 1, last, last},
		{0, last, last}, {0, half, half}, {0, half - 1, half - 1}, {5, half + 5, half + 5}, {5, half + 6, half + 6},
		// Up to 2^64 - 1, and above.
		{top, last, top}, {top - half + 1, last, top}, {top - half + 2, 0, top - last},
		{top, 0, top - last}, {top, half - 2, top - half - 1}, {top, half - 1, top - half},
	} {
		if got := Long(c.near, c.n); got != c.want {
			t.Errorf("Long(%#x, %#x) = %#x, not %#x", c.near, c.n, got, c.want)
		}
	}
}

// nearest is Long, reckoned in numbers without an end: the least one from near - 2^31 on that has these bits.
func nearest(near uint64, n uint32) uint64 {
	round := big.NewInt(turn)
	least := new(big.Int).Sub(new(big.Int).SetUint64(near), big.NewInt(half))
	up := new(big.Int).Sub(big.NewInt(int64(n)), least)
	long := least.Add(least, up.Mod(up, round))
	if long.Sign() < 0 {
		long.Add(long, round)
	}
	if !long.IsUint64() {
		long.Sub(long, round)
	}
	return long.Uint64()
}

// P1.2, P1.6, R2: at all edges, the nearest one, with the bits that were asked for.
func TestLongIsNearest(t *testing.T) {
	for _, near := range longEdges() {
		for _, n := range edges() {
			got := Long(near, n)
			if got != nearest(near, n) {
				t.Errorf("Long(%#x, %#x) = %#x, not %#x", near, n, got, nearest(near, n))
			}
			if uint32(got) != n {
				t.Errorf("Long(%#x, %#x) = %#x has other bits", near, n, got)
			}
		}
	}
	r := rand.New(rand.NewSource(2))
	for range 50000 {
		near, n := r.Uint64()>>r.Intn(64), some(r)
		if got := Long(near, n); got != nearest(near, n) {
			t.Fatalf("Long(%#x, %#x) = %#x", near, n, got)
		}
	}
}

// P1.3: segments of no number, and of some, to windows of size 0, and others.
func TestAccept(t *testing.T) {
	for _, c := range []struct {
		begin, size, seq, length uint32
		want                     bool
	}{
		// No number, no window.
		{10, 0, 10, 0, true}, {10, 0, 9, 0, false}, {10, 0, 11, 0, false}, {0, 0, last, 0, false},
		// No number, a window.
		{10, 5, 10, 0, true}, {10, 5, 14, 0, true}, {10, 5, 15, 0, false}, {10, 5, 9, 0, false},
		{last, 2, 0, 0, true}, {last, 2, 1, 0, false},
		// Some, no window.
		{10, 0, 10, 1, false}, {10, 0, 9, 2, false}, {10, 0, 10, last, false},
		// Some, a window: the first one, the last one, both, neither.
		{10, 5, 14, 9, true}, {10, 5, 15, 9, false}, {10, 5, 8, 3, true}, {10, 5, 8, 2, false},
		{10, 5, 11, 2, true}, {10, 5, 9, 1, false}, {10, 5, 10, 1, true}, {10, 5, 14, 1, true}, {10, 5, 15, 1, false},
		{10, 5, 0, 100, false}, {10, 5, 9, 7, false}, {10, 5, 9, 6, true},
		// Round.
		{0, 5, last, 1, false}, {0, 5, last, 2, true}, {last, 2, last - 1, 2, true}, {last, 2, 1, 1, false},
		{0, 5, 5, last, true}, {0, 5, 6, last, true}, {0, 4, 10, last, false},
	} {
		if got := Accept(c.begin, c.size, c.seq, c.length); got != c.want {
			t.Errorf("Accept(%d, %d, %d, %d) = %v", c.begin, c.size, c.seq, c.length, got)
		}
	}
}

// accept is the table of RFC 9293, 3.4.
func accept(begin, size, seq, length uint32) bool {
	if size == 0 {
		return length == 0 && seq == begin
	}
	final := uint32((int64(seq) + int64(length) + turn - 1) % turn)
	return in(seq, begin, size) || length > 0 && in(final, begin, size)
}

// P1.3, R1: at all edges.
func TestAcceptEdges(t *testing.T) {
	for _, begin := range edges() {
		for _, size := range edges() {
			for _, seq := range edges() {
				for _, length := range edges() {
					if got := Accept(begin, size, seq, length); got != accept(begin, size, seq, length) {
						t.Errorf("Accept(%d, %d, %d, %d) = %v", begin, size, seq, length, got)
					}
				}
			}
		}
	}
}

// P1.4: with the same number added to all the answers are the same.
func TestDifferencesAlone(t *testing.T) {
	r := rand.New(rand.NewSource(3))
	for range 50000 {
		a, b, c, d, k := some(r), some(r), some(r), some(r), some(r)
		if Diff(a, b) != Diff(a+k, b+k) || Before(a, b) != Before(a+k, b+k) {
			t.Fatalf("Diff, Before of %d and %d, and %d more", a, b, k)
		}
		if Max(a, b, c, d)+k != Max(a+k, b+k, c+k, d+k) {
			t.Fatalf("Max of %d, %d, %d, %d, and %d more", a, b, c, d, k)
		}
		if In(a, b, c) != In(a+k, b+k, c) || Between(a, b, c) != Between(a+k, b+k, c+k) {
			t.Fatalf("In, Between of %d, %d, %d, and %d more", a, b, c, k)
		}
		if Overlap(api.Block{Left: a, Right: b}, api.Block{Left: c, Right: d}) != Overlap(api.Block{Left: a + k, Right: b + k}, api.Block{Left: c + k, Right: d + k}) {
			t.Fatalf("Overlap of %d to %d, %d to %d, and %d more", a, b, c, d, k)
		}
		if Accept(a, b, c, d) != Accept(a+k, b, c+k, d) {
			t.Fatalf("Accept of %d, %d, %d, %d, and %d more", a, b, c, d, k)
		}
		// Where neither end of the long numbers is near.
		near := uint64(r.Uint32())<<16 + turn
		if Long(near, a)+uint64(k) != Long(near+uint64(k), a+k) {
			t.Fatalf("Long of %d, %d, and %d more", near, a, k)
		}
	}
}

// P1.5: one is before the other, or they are the same, or 2^31 apart.
func TestOneOfFour(t *testing.T) {
	for _, a := range edges() {
		for _, b := range edges() {
			holds := 0
			for _, it := range []bool{Before(a, b), Before(b, a), a == b, ahead(a, b) == half} {
				if it {
					holds++
				}
			}
			if holds != 1 {
				t.Errorf("%d and %d: %d of these hold", a, b, holds)
			}
		}
	}
}

// P1.6: a long number is that of its lowest bits, near it.
func TestLongOfItself(t *testing.T) {
	for _, long := range longEdges() {
		if got := Long(long, uint32(long)); got != long {
			t.Errorf("Long(%#x, %#x) = %#x", long, uint32(long), got)
		}
		for _, off := range []uint64{1, 1000, half - 1, half} {
			if near := long + off; near > long && Long(near, uint32(long)) != long {
				t.Errorf("near %#x: %#x, not %#x", near, Long(near, uint32(long)), long)
			}
			if near := long - off; near < long && off < half && Long(near, uint32(long)) != long {
				t.Errorf("near %#x: %#x, not %#x", near, Long(near, uint32(long)), long)
			}
		}
	}
}

// R3: what a call answers hangs on its arguments alone: asked in the other order, with others ahead, it is the same.
func TestOrderOfCalls(t *testing.T) {
	type answers struct {
		diff   int32
		taken  uint32
		long   uint64
		others [5]bool
	}
	ask := func(a, b, c uint32) answers {
		run, other := api.Block{Left: a, Right: b}, api.Block{Left: b, Right: c}
		return answers{
			Diff(a, b), Max(a, b, c), Long(uint64(a)<<20, b),
			[5]bool{Before(a, b), In(a, b, c), Between(a, b, c), Overlap(run, other), Accept(a, b, c, 1)},
		}
	}
	var asked [][3]uint32
	var told []answers
	for _, a := range edges() {
		for _, b := range edges() {
			for _, c := range edges() {
				asked = append(asked, [3]uint32{a, b, c})
				told = append(told, ask(a, b, c))
			}
		}
	}
	for i, q := range slices.Backward(asked) {
		if again := ask(q[0], q[1], q[2]); again != told[i] {
			t.Fatalf("%v: first %v, then %v", q, told[i], again)
		}
	}
}
