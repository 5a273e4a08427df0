package pmtu

import (
	"math"
	"slices"
	"testing"

	"downhaul/addr"
	"downhaul/api"
	"downhaul/checks"
)

// four and six are an address of each kind.
var (
	four = addr.Four(10, 0, 0, 1)
	six  = addr.Six(0x2001, 0xDB8, 0, 0, 1, 0, 0, 1)
)

// cache is a cache of that MTU.
func cache(t *testing.T, mtu int) *Cache {
	t.Helper()
	c, e := New(mtu)
	if c == nil || e != api.OK {
		t.Fatalf("New(%d) = %v, %v", mtu, c, e)
	}
	return c
}

// gets holds what the MTU of an address is at a time.
func gets(t *testing.T, what string, c *Cache, now int64, a api.Addr, want int) {
	t.Helper()
	if got := c.Get(now, a); got != want {
		t.Errorf("%s: Get(%d, %v) = %d, not %d", what, now, a, got, want)
	}
}

// counts holds how many are known at a time.
func counts(t *testing.T, what string, c *Cache, now int64, want int) {
	t.Helper()
	if got := c.Len(now); got != want {
		t.Errorf("%s: Len(%d) = %d, not %d", what, now, got, want)
	}
}

// lessens holds that an MTU is told that is less, and that want is known from then on.
func lessens(t *testing.T, what string, c *Cache, now int64, a api.Addr, mtu, want int) {
	t.Helper()
	if !c.Less(now, a, mtu) {
		t.Errorf("%s: Less(%d, %v, %d) = false", what, now, a, mtu)
	}
	gets(t, what, c, now, a, want)
}

// stays holds that an MTU is told that is not less, and that all is as it was.
func stays(t *testing.T, what string, c *Cache, now int64, a api.Addr, mtu int) {
	t.Helper()
	was, n := c.Get(now, a), c.Len(now)
	if c.Less(now, a, mtu) {
		t.Errorf("%s: Less(%d, %v, %d) = true", what, now, a, mtu)
	}
	gets(t, what, c, now, a, was)
	counts(t, what, c, now, n)
}

// samples are addresses of both kinds, also such that may not be.
func samples() []api.Addr {
	out := []api.Addr{four, six, addr.Four(224, 0, 0, 1), addr.Six(0xFF02, 0, 0, 0, 0, 0, 0, 1)}
	for _, b := range checks.Edges() {
		out = append(out, api.Addr{B: b}, api.Addr{Six: true, B: b})
	}
	return append(out, checks.Unlikely(10, 0, 0, 1)...)
}

// floorByWords is the floor, by the chapter's words.
func floorByWords(a api.Addr) int {
	return map[bool]int{false: 576, true: 1280}[a.Six]
}

// The chapter's example.
func TestExample(t *testing.T) {
	c := cache(t, 1500)
	if !c.Less(0, four, 100) {
		t.Error("it is no less")
	}
	gets(t, "the floor", c, 0, four, 576)
	gets(t, "the end", c, 600000, four, 1500)
}

// P17.1: the floor hangs on the kind alone, also of addresses that may not be.
func TestFloor(t *testing.T) {
	for _, a := range samples() {
		if got := Floor(a); got != floorByWords(a) {
			t.Errorf("Floor(%v) = %d", a, got)
		}
	}
	for _, b := range checks.Unlikely(255, 255, 255, 255) {
		if Floor(b) != 576 || Floor(checks.OtherKind(b)) != 1280 {
			t.Errorf("Floor(%v) = %d, of the other kind %d", b, Floor(b), Floor(checks.OtherKind(b)))
		}
	}
}

// plateaus are those that the chapter tells.
func plateaus() []int {
	return []int{32000, 17914, 8166, 4352, 2002, 1492, 1280, 1006, 576, 508, 296, 68}
}

// P17.1: each plateau, one below it and one above it.
func TestPlateaus(t *testing.T) {
	list := append(plateaus(), 68)
	for i, p := range list[:12] {
		for size, want := range map[int]int{p - 1: list[i+1], p: list[i+1], p + 1: p} {
			if got := Plateau(size); got != want {
				t.Errorf("Plateau(%d) = %d, not %d", size, got, want)
			}
		}
	}
}

// P17.1: the greatest plateau that is below each size; 68 of those that have none below.
func TestPlateauOfEachSize(t *testing.T) {
	for size := -1000; size <= 70000; size++ {
		want := 68
		for _, p := range plateaus() {
			if p < size {
				want = max(want, p)
			}
		}
		if got := Plateau(size); got != want {
			t.Errorf("Plateau(%d) = %d, not %d", size, got, want)
		}
	}
	for _, size := range []int{math.MinInt, math.MinInt + 1, math.MinInt32, -1 << 32, 1 - 1<<32, -65536, -1, 0, 1, 67, 68} {
		if got := Plateau(size); got != 68 {
			t.Errorf("Plateau(%d) = %d", size, got)
		}
	}
	for _, size := range []int{math.MaxInt, math.MaxInt - 1, math.MaxInt32, 1 << 32, 1<<32 + 1, 65536, 65535, 32001} {
		if got := Plateau(size); got != 32000 {
			t.Errorf("Plateau(%d) = %d", size, got)
		}
	}
}

// wrongOwn are MTUs that no cache has.
func wrongOwn() []int {
	out := []int{math.MinInt, math.MinInt + 1, math.MinInt32, -1 << 32, 1500 - 1<<32, -65536, -1500, -1280, -1, 65536, 65537, 1 << 17, 1<<16 + 1500, math.MaxInt32, 1 << 32, 1<<32 + 1500, math.MaxInt - 1, math.MaxInt}
	for mtu := range 1280 {
		out = append(out, mtu)
	}
	return out
}

// P17.1, P17.2: from 1280 to 65535 there is a cache, which knows nothing, so that its own MTU is that of all; of other MTUs there is none.
func TestNew(t *testing.T) {
	for mtu := 1280; mtu <= 65535; mtu++ {
		c := cache(t, mtu)
		counts(t, "new", c, 0, 0)
		gets(t, "new", c, 0, four, mtu)
		gets(t, "new", c, 0, six, mtu)
	}
	for _, mtu := range []int{1280, 1281, 1500, 9000, 65534, 65535} {
		c := cache(t, mtu)
		for i, a := range samples() {
			gets(t, "new", c, int64(1000*i), a, mtu)
		}
		counts(t, "asked", c, 1<<39, 0)
	}
	for _, mtu := range wrongOwn() {
		if c, e := New(mtu); c != nil || e != api.ErrArg {
			t.Errorf("New(%d) = %v, %v", mtu, c, e)
		}
	}
}

// downTo are some MTUs below own, the greatest one first, down to the floor.
func downTo(own, floor int) []int {
	list := []int{floor, floor + 1, (own + floor) / 2, own - 2, own - 1}
	slices.Sort(list)
	slices.Reverse(list)
	return slices.DeleteFunc(slices.Compact(list), func(mtu int) bool { return mtu < floor || mtu >= own })
}

// P17.2: what is just below what is known is less, down to the floor; what is at it, or above it, is not.
func TestLess(t *testing.T) {
	for _, own := range []int{1280, 1281, 1500, 65535} {
		for _, a := range samples() {
			c, floor := cache(t, own), floorByWords(a)
			stays(t, "its own", c, 0, a, own)
			stays(t, "above its own", c, 0, a, own+1)
			counts(t, "nothing", c, 0, 0)
			for _, mtu := range downTo(own, floor) {
				lessens(t, "less", c, 0, a, mtu, mtu)
				counts(t, "less", c, 0, 1)
				stays(t, "again", c, 0, a, mtu)
				stays(t, "above", c, 0, a, mtu+1)
				stays(t, "its own", c, 0, a, own)
			}
			// The floor is known, or the cache's own.
			gets(t, "the floor", c, 0, a, floor)
			for _, mtu := range []int{floor, floor - 1, floor + 1, 68, 0, -1} {
				stays(t, "at the floor", c, 0, a, mtu)
			}
		}
	}
}

// P17.2: just one less at a time, from the cache's own down to the floor.
func TestLessByOne(t *testing.T) {
	for _, a := range []api.Addr{four, six} {
		c := cache(t, 1500)
		for mtu := 1499; mtu >= floorByWords(a); mtu-- {
			stays(t, "as it is", c, 0, a, mtu+1)
			lessens(t, "one less", c, 0, a, mtu, mtu)
		}
		stays(t, "the floor", c, 0, a, floorByWords(a)-1)
		counts(t, "one", c, 0, 1)
	}
}

// belowFloors are MTUs below each floor.
func belowFloors() []int {
	return []int{575, 508, 296, 68, 28, 1, 0, -1, -2, -576, -1280, -65536, math.MinInt32, 1000 - 1<<32, math.MinInt + 1, math.MinInt}
}

// P17.2, P17.3: of what is below the floor the floor is known; where that is known, or the cache's own, it is no less.
func TestBelowFloor(t *testing.T) {
	for _, mtu := range belowFloors() {
		for _, a := range []api.Addr{four, six, checks.Unlikely(10, 0, 0, 1)[0], {}, {Six: true}} {
			floor := floorByWords(a)
			for _, own := range []int{1282, 1500, 65535} {
				c := cache(t, own)
				lessens(t, "below the floor", c, 0, a, mtu, floor)
				stays(t, "again", c, 0, a, mtu)
				stays(t, "the floor", c, 0, a, floor)
				c = cache(t, own)
				lessens(t, "above the floor", c, 0, a, floor+1, floor+1)
				lessens(t, "below the floor", c, 0, a, mtu, floor)
				c = cache(t, own)
				lessens(t, "the floor", c, 0, a, floor, floor)
				stays(t, "below the floor", c, 0, a, mtu)
			}
		}
		// Of sixteen bytes the floor is this cache's own.
		c := cache(t, 1280)
		stays(t, "its own", c, 0, six, mtu)
		stays(t, "its own", c, 0, six, 1279)
		stays(t, "its own", c, 0, six, 1280)
		counts(t, "nothing", c, 0, 0)
		lessens(t, "of four", c, 0, four, 1279, 1279)
		lessens(t, "of four", c, 0, four, mtu, 576)
		counts(t, "one", c, 0, 1)
	}
	// Between the floors it hangs on the kind.
	for mtu := 570; mtu <= 1290; mtu++ {
		c := cache(t, 1500)
		lessens(t, "of four", c, 0, four, mtu, max(mtu, 576))
		lessens(t, "of sixteen", c, 0, six, mtu, max(mtu, 1280))
		counts(t, "both", c, 0, 2)
	}
}

// P17.2: great MTUs are no less.
func TestGreatMTUs(t *testing.T) {
	for _, own := range []int{1280, 1500, 65535} {
		for _, a := range samples() {
			c := cache(t, own)
			great := []int{own, own + 1, 65535, 65536, 1 << 20, math.MaxInt32, 1 << 32, 1<<32 + 600, math.MaxInt - 1, math.MaxInt}
			for _, mtu := range great {
				stays(t, "of nothing", c, 0, a, mtu)
			}
			counts(t, "nothing", c, 0, 0)
			if c.Less(0, a, 600); own > 1280 {
				counts(t, "one", c, 0, 1)
			}
			for _, mtu := range great {
				stays(t, "of what is known", c, 0, a, mtu)
			}
		}
	}
}

// P17.2: two addresses are the same, if all sixteen bytes and the kind are: those that differ in one bit, in their kind, or behind the fourth byte, know nothing of each other.
func TestOtherAddresses(t *testing.T) {
	for _, a := range []api.Addr{four, six, {}, {Six: true}, checks.Unlikely(10, 0, 0, 1)[0], {B: checks.Filled(0xFF)}, {Six: true, B: checks.Filled(0xFF)}} {
		others := []api.Addr{checks.OtherKind(a)}
		for bit := range 128 {
			others = append(others, checks.Turned(a, bit))
		}
		for _, b := range others {
			c := cache(t, 1500)
			lessens(t, "one", c, 0, a, 1400, 1400)
			gets(t, "the other one", c, 0, b, 1500)
			stays(t, "the other one", c, 0, b, 1500)
			counts(t, "one", c, 0, 1)
			lessens(t, "the other one", c, 0, b, 1450, 1450)
			counts(t, "both", c, 0, 2)
			gets(t, "one", c, 0, a, 1400)
			lessens(t, "one, again", c, 0, a, 1300, 1300)
			gets(t, "the other one", c, 0, b, 1450)
			counts(t, "both", c, 0, 2)
		}
	}
	// Those of one beginning, side by side.
	c, list := cache(t, 1500), checks.Unlikely(10, 0, 0, 1)
	for i, a := range slices.Concat(list, []api.Addr{four}) {
		lessens(t, "behind the fourth", c, 0, a, 600+i, 600+i)
		counts(t, "behind the fourth", c, 0, i+1)
	}
	for i, a := range list {
		gets(t, "behind the fourth", c, 0, a, 600+i)
	}
}
