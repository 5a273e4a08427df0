package pmtu

import (
	"math"
	"math/rand"
	"slices"
	"testing"

	"downhaul/addr"
	"downhaul/api"
	"downhaul/checks"
)

// P17.2, R1, R5: a nil cache, and ones that New did not give, a copy among them: 0, false, whatever they are asked.
func TestNoCaches(t *testing.T) {
	given := cache(t, 1500)
	lessens(t, "given", given, 500, four, 1400, 1400)
	copied := *given
	for _, c := range []*Cache{nil, {}, new(Cache), &copied} {
		for _, now := range append(wrongTimes(), 0, 1, 500, 600500, 1<<39, 1<<40) {
			for _, a := range append(samples()[:8], checks.Unlikely(10, 0, 0, 1)...) {
				gets(t, "no cache", c, now, a, 0)
				for _, mtu := range []int{math.MinInt, -1, 0, 68, 576, 1279, 1280, 1400, 1499, 65535, 65536, math.MaxInt} {
					if c.Less(now, a, mtu) {
						t.Errorf("Less(%d, %v, %d) = true", now, a, mtu)
					}
				}
				gets(t, "no cache", c, now, a, 0)
				counts(t, "no cache", c, now, 0)
			}
		}
	}
	// What the copy was of is as it was, also its time.
	gets(t, "given", given, 600499, four, 1400)
	counts(t, "given", given, 600499, 1)
	lessens(t, "given", given, 0, six, 1300, 1300)
	gets(t, "the copy", &copied, 600499, six, 0)
	counts(t, "given", given, 600500, 1)
	counts(t, "the copy", &copied, 600500, 0)
}

// P17.1, R5: two caches know nothing of each other: neither what is known, nor the time, nor the MTU.
func TestTwoCaches(t *testing.T) {
	one, two := cache(t, 1500), cache(t, 9000)
	lessens(t, "one", one, 0, four, 1400, 1400)
	gets(t, "two", two, 0, four, 9000)
	counts(t, "two", two, 0, 0)
	lessens(t, "two", two, 0, four, 1450, 1450)
	lessens(t, "two", two, 0, six, 1290, 1290)
	gets(t, "one", one, 0, four, 1400)
	gets(t, "one", one, 0, six, 1500)
	counts(t, "one", one, 0, 1)
	gets(t, "one", one, 600000, four, 1500)
	gets(t, "two", two, 599999, four, 1450)
	counts(t, "two", two, 599999, 2)
	for i := range 64 {
		one.Less(600000, addr.Four(1, 1, 1, byte(i)), 576)
	}
	counts(t, "one", one, 600000, 64)
	counts(t, "two", two, 599999, 2)
	counts(t, "two", two, 600000, 0)
	counts(t, "one", one, 600000, 64)
}

// asking is one call of a cache.
type asking struct {
	kind int
	now  int64
	a    api.Addr
	mtu  int
}

// askings are n calls by chance.
func askings(chance *rand.Rand, n int) []asking {
	var out []asking
	list, now := pool(chance, 100), int64(0)
	for range n {
		now = max(now, min(anyTime(chance, now), 1<<39))
		out = append(out, asking{chance.Intn(6), now, list[chance.Intn(100)], anyMTU(chance, 9000)})
	}
	return out
}

// told is what a cache answers to a call.
func (s asking) told(c *Cache) [2]int {
	switch s.kind {
	case 0:
		return [2]int{c.Get(s.now, s.a), 0}
	case 1:
		return [2]int{c.Len(s.now), 0}
	}
	if c.Less(s.now, s.a, s.mtu) {
		return [2]int{c.Get(s.now, s.a), 1}
	}
	return [2]int{c.Get(s.now, s.a), 2}
}

// R3: the same calls do the same, to one cache after the other, and to two in turn; so what goes hangs on no map's order.
func TestSameCalls(t *testing.T) {
	for seed := range int64(40) {
		list := askings(rand.New(rand.NewSource(2100+seed)), 1000)
		one, two, three := cache(t, 9000), cache(t, 9000), cache(t, 9000)
		var told [][2]int
		for _, s := range list {
			told = append(told, s.told(one))
		}
		for i, s := range list {
			if a, b := s.told(two), s.told(three); a != told[i] || b != told[i] {
				t.Fatalf("%d: %v, %v, not %v", i, a, b, told[i])
			}
		}
	}
}

// R3: asked again at one time, in another order, a cache answers the same: asking turns nothing.
func TestAskedAgain(t *testing.T) {
	chance := rand.New(rand.NewSource(175))
	list, c := pool(chance, 100), cache(t, 9000)
	for i, a := range list {
		c.Less(int64(1000*i), a, anyMTU(chance, 9000))
	}
	now := int64(620000)
	type question struct {
		kind int
		a    api.Addr
	}
	ask := func() question { return question{chance.Intn(2), list[chance.Intn(100)]} }
	answers := func(q question) int {
		if q.kind == 0 {
			return c.Len(now)
		}
		return c.Get(now, q.a)
	}
	checks.Again(2000, ask, answers, func(q question, first, then int) {
		t.Fatalf("%v: first %d, then %d", q, first, then)
	})
	sizes := func() int { return chance.Intn(70000) - 500 }
	checks.Again(2000, sizes, Plateau, func(size, first, then int) {
		t.Fatalf("Plateau(%d): first %d, then %d", size, first, then)
	})
	addresses := func() api.Addr { return list[chance.Intn(100)] }
	checks.Again(2000, addresses, Floor, func(a api.Addr, first, then int) {
		t.Fatalf("Floor(%v): first %d, then %d", a, first, then)
	})
}

// R4: an address that is turned once it was told turns nothing that is known; it stays as it was.
func TestAddressesAreNotKept(t *testing.T) {
	for _, a := range samples() {
		c, was := cache(t, 1500), a
		lessens(t, "told", c, 0, a, 1400, 1400)
		if Floor(a); a != was {
			t.Errorf("%v was turned", was)
		}
		a.Six = !a.Six
		gets(t, "turned", c, 0, was, 1400)
		gets(t, "turned", c, 0, a, 1500)
		counts(t, "turned", c, 0, 1)
	}
	list := samples()
	kept := slices.Clone(list)
	c := cache(t, 1500)
	for i := range list {
		c.Less(int64(i), list[i], 600)
	}
	clear(list)
	for i, a := range kept {
		want := 1500
		if i >= len(kept)-64 {
			want = max(600, floorByWords(a))
		}
		gets(t, "cleared", c, 0, a, want)
	}
}

// R1: every call ends, at all arguments.
func TestAllArguments(t *testing.T) {
	numbers := []int{math.MinInt, math.MinInt32, -1, 0, 1, 575, 576, 1279, 1280, 1499, 1500, 65535, 65536, math.MaxInt32, math.MaxInt}
	for _, own := range numbers {
		c, e := New(own)
		if (c == nil) != (e == api.ErrArg) || (c != nil) != (e == api.OK) {
			t.Errorf("New(%d) = %v, %v", own, c, e)
		}
		for _, now := range append(wrongTimes(), 0, 1, 600000, 1<<40) {
			for _, mtu := range numbers {
				for _, a := range checks.Edges()[:9] {
					for _, is := range []bool{false, true} {
						b := api.Addr{Six: is, B: a}
						c.Less(now, b, mtu)
						if got := c.Get(now, b); c != nil && (got < floorByWords(b) || got > own) {
							t.Errorf("Get(%d, %v) = %d", now, b, got)
						}
						if n := c.Len(now); n < 0 || n > 64 {
							t.Error(n)
						}
					}
				}
			}
		}
	}
}
