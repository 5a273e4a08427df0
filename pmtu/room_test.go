package pmtu

import (
	"math"
	"math/rand"
	"slices"
	"testing"

	"downhaul/addr"
	"downhaul/api"
	"downhaul/checks"
)

// rising are n addresses, at most 256, as layer 9's Compare has them: those of four bytes ahead, as many as of sixteen; they differ in their first bytes, or in their last ones.
func rising(n int) []api.Addr {
	var fours, sixes []api.Addr
	for i := range 64 {
		fours = append(fours, addr.Four(byte(i), 255, 0, byte(255-i)))
		sixes = append(sixes, addr.Six(uint16(i), 0xFFFF, 0, 0, 0, 0, 0, uint16(0xFFFF-i)))
	}
	for i := range 64 {
		fours = append(fours, addr.Four(200, 0, 0, byte(i)))
		sixes = append(sixes, addr.Six(0xFE80, 0, 0, 0, 0, 0, 0, uint16(i)))
	}
	return slices.Concat(fours[:n/2], sixes[:n-n/2])
}

// mixed are addresses in an order by chance.
func mixed(chance *rand.Rand, list []api.Addr) []api.Addr {
	out := slices.Clone(list)
	chance.Shuffle(len(out), func(i, j int) { out[i], out[j] = out[j], out[i] })
	return out
}

// full is a cache that knows of all these addresses 1400, told one after the other, with a pause between.
func full(t *testing.T, list []api.Addr, pause int64) *Cache {
	t.Helper()
	c := cache(t, 1500)
	for i, a := range list {
		if !c.Less(int64(i)*pause, a, 1400) {
			t.Fatalf("Less of the address %d = false", i)
		}
	}
	return c
}

// knows holds that of some addresses just these are known, at the cache's time, and that there are n in all.
func knows(t *testing.T, what string, c *Cache, list, want []api.Addr, n int) {
	t.Helper()
	for i, a := range list {
		if got := c.Get(0, a) < 1500; got != slices.Contains(want, a) {
			t.Errorf("%s: that the address %d of %d is known, %v, is %t", what, i, len(list), a, got)
		}
	}
	counts(t, what, c, 0, n)
}

// has holds that just these are known of all.
func has(t *testing.T, what string, c *Cache, list, want []api.Addr) {
	t.Helper()
	knows(t, what, c, list, want, len(want))
}

// P17.2: there may be 64; the 65th lets the one go that was told first, and each further one the next.
func TestManyByTime(t *testing.T) {
	chance := rand.New(rand.NewSource(171))
	for range 20 {
		list := mixed(chance, rising(200))
		c := cache(t, 1500)
		for i, a := range list {
			lessens(t, "told", c, int64(i), a, 1400, 1400)
			has(t, "the last 64", c, list, list[max(0, i-63):i+1])
		}
	}
}

// P17.2: that it came earlier does not count, but until when it is known: what was told again goes later.
func TestManyToldAgain(t *testing.T) {
	chance := rand.New(rand.NewSource(172))
	for range 20 {
		list := mixed(chance, rising(192))
		c := full(t, list[:64], 10)
		// Each other one is told again.
		var early, late []api.Addr
		for i, a := range list[:64] {
			if i%2 == 0 {
				early = append(early, a)
			} else {
				late = append(late, a)
			}
		}
		late = mixed(chance, late)
		for i, a := range late {
			lessens(t, "again", c, 1000+int64(i), a, 1300, 1300)
			counts(t, "again", c, 0, 64)
		}
		// What is no less is known no longer by that.
		for _, a := range early {
			stays(t, "no less", c, 2000, a, 1400)
		}
		order := slices.Concat(early, late, list[64:])
		for i, a := range list[64:] {
			lessens(t, "a further one", c, 3000+int64(i), a, 1300, 1300)
			has(t, "a further one", c, list, order[i+1:i+65])
		}
	}
}

// P17.2: of those that are known as long the one goes that comes first by layer 9's Compare, in whatever order they were told; never the one that is told.
func TestManyByCompare(t *testing.T) {
	chance := rand.New(rand.NewSource(173))
	for range 20 {
		list := rising(128)
		picked := mixed(chance, list)[:64]
		c := full(t, picked, 0)
		has(t, "64", c, list, picked)
		for _, a := range mixed(chance, list) {
			if slices.Contains(picked, a) {
				continue
			}
			slices.SortFunc(picked, byWords)
			picked = append(picked[1:], a)
			lessens(t, "a further one", c, 0, a, 1300, 1300)
			has(t, "a further one", c, list, picked)
		}
	}
}

// byWords orders addresses that may be, by the words of layer 9: those of four bytes are ahead, then the first byte that differs tells.
func byWords(a, b api.Addr) int {
	for i := range 16 {
		switch {
		case a.Six != b.Six && b.Six:
			return -1
		case a.Six != b.Six:
			return 1
		case a.B[i] != b.B[i]:
			return int(a.B[i]) - int(b.B[i])
		}
	}
	return 0
}

// P17.2: a known order: the time counts first, then the kind, then the bytes.
func TestManyKnownOrder(t *testing.T) {
	first := []api.Addr{
		addr.Six(0xFFFF), addr.Six(0xFFFF, 1), // told ahead
		addr.Four(0, 0, 0, 1), addr.Four(0, 0, 1, 0), addr.Four(1, 0, 0, 0), addr.Four(127, 255, 255, 255), addr.Four(128, 0, 0, 0), addr.Four(255, 255, 255, 254), addr.Four(255, 255, 255, 255),
		addr.Six(), addr.Six(0, 0, 0, 0, 0, 0, 0, 1), addr.Six(0, 1), addr.Six(0x7FFF), addr.Six(0x8000), addr.Six(0xFFFE), // told then, one after the other
		addr.Four(0, 0, 0, 0), addr.Six(0, 0, 0, 0, 0, 0, 0, 2), // told behind
	}
	rest := rising(64 - len(first))
	for _, backward := range []bool{false, true} {
		c := cache(t, 1500)
		tell := func(now int64, list []api.Addr) {
			list = slices.Clone(list)
			if backward {
				slices.Reverse(list)
			}
			for _, a := range list {
				lessens(t, "told", c, now, a, 1400, 1400)
			}
		}
		tell(10, first[:2])
		tell(11, first[2:15])
		tell(12, first[15:])
		tell(13, rest)
		for i := range first {
			lessens(t, "a further one", c, 14, addr.Four(99, 99, 99, byte(i)), 1300, 1300)
			knows(t, "a further one", c, first, first[i+1:], 64)
		}
	}
}

// P17.2: telling again of one that is known lets none go, however many are known; it does not count twice.
func TestKnownLetsNoneGo(t *testing.T) {
	list := rising(128)
	c := full(t, list[:64], 1)
	for i, a := range list[:64] {
		lessens(t, "again", c, 100+int64(i), a, 1350, 1350)
		has(t, "again", c, list, list[:64])
		lessens(t, "and again", c, 100+int64(i), a, 0, floorByWords(a))
		has(t, "and again", c, list, list[:64])
	}
	// The 65th, as often as it likes, lets one go alone.
	for mtu := 1499; mtu > 1290; mtu-- {
		lessens(t, "the 65th", c, 1000, list[64], mtu, mtu)
		has(t, "the 65th", c, list, list[1:65])
	}
}

// P17.2: what is no less lets none go, and neither does asking.
func TestNoLessLetsNoneGo(t *testing.T) {
	list := rising(128)
	c := full(t, list[:64], 1)
	for _, a := range list[64:] {
		for _, mtu := range []int{1500, 1501, 65535, math.MaxInt} {
			stays(t, "no less", c, 100, a, mtu)
		}
	}
	has(t, "64", c, list, list[:64])
	// Of sixteen bytes the floor is this cache's own.
	c, e := New(1280)
	if e != api.OK {
		t.Fatal(e)
	}
	for i := range 64 {
		lessens(t, "told", c, 0, addr.Four(1, 1, 1, byte(i)), 1200, 1200)
	}
	for _, mtu := range []int{1279, 0, math.MinInt} {
		stays(t, "the floor", c, 0, six, mtu)
	}
	for i := range 64 {
		gets(t, "told", c, 0, addr.Four(1, 1, 1, byte(i)), 1200)
	}
}

// P17.2: what has ended makes room: only if 64 others are known then one goes.
func TestEndedMakesRoom(t *testing.T) {
	list := rising(200)
	c := full(t, list[:64], 1)
	// At its end the first one makes room for one more; the second one is still known.
	lessens(t, "the 65th", c, 600000, list[64], 1400, 1400)
	has(t, "the 65th", c, list, list[1:65])
	lessens(t, "the 66th", c, 600000, list[65], 1400, 1400)
	has(t, "the 66th", c, list, list[2:66])
	// Of 20 that ended each makes room, and then the next one goes.
	c = full(t, list[:64], 1)
	for i, a := range list[64:84] {
		lessens(t, "room", c, 600019, a, 1400, 1400)
		has(t, "room", c, list, list[20:65+i])
	}
	lessens(t, "no room", c, 600019, list[84], 1400, 1400)
	has(t, "no room", c, list, list[21:85])
	// What ended is told anew.
	c = full(t, list[:64], 0)
	counts(t, "all ended", c, 600000, 0)
	for i, a := range list[:64] {
		lessens(t, "anew", c, 600000, a, 1450, 1450)
		has(t, "anew", c, list, list[:i+1])
	}
	// Where the one that is told anew has ended itself, its room is left.
	c = full(t, list[:64], 1)
	lessens(t, "anew", c, 600000, list[0], 1499, 1499)
	has(t, "anew", c, list, list[:64])
}

// P17.2: what went is not known, and may be told anew, also more than it was; then the next one goes.
func TestGoneAndToldAnew(t *testing.T) {
	list := rising(65)
	c := full(t, list[:64], 1)
	lessens(t, "the 65th", c, 100, list[64], 1400, 1400)
	gets(t, "gone", c, 100, list[0], 1500)
	stays(t, "gone", c, 100, list[0], 1500)
	lessens(t, "anew", c, 101, list[0], 1499, 1499)
	has(t, "anew", c, list, slices.Concat(list[:1], list[2:]))
	gets(t, "just ahead", c, 600100, list[0], 1499)
	gets(t, "the end", c, 600101, list[0], 1500)
}

// P17.2, R3: of addresses that Compare does not tell apart, known as long, the same one goes each time, in whatever order they were told, and those that Compare has ahead went before.
func TestBehindTheFourthGoes(t *testing.T) {
	chance := rand.New(rand.NewSource(174))
	alike := checks.Unlikely(10, 0, 0, 1)[:32]
	slices.SortFunc(alike, byWords)
	ahead, behind := rising(20)[:10], []api.Addr{addr.Four(10, 0, 0, 2), addr.Four(255, 0, 0, 0)}
	for i := range 20 {
		behind = append(behind, addr.Six(uint16(i)))
	}
	order := slices.Concat(ahead, alike, behind)
	if len(order) != 64 {
		t.Fatal(len(order))
	}
	for range 50 {
		c := full(t, mixed(chance, order), 0)
		for i := range order {
			lessens(t, "a further one", c, 1, addr.Four(99, 99, 99, byte(i)), 1300, 1300)
			knows(t, "a further one", c, order, order[i+1:], 64)
		}
	}
}
