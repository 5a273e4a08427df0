package pmtu

import (
	"math"
	"testing"

	"downhaul/addr"
	"downhaul/api"
)

// wrongTimes are none, whatever a cache's time is.
func wrongTimes() []int64 {
	return []int64{-1, -2, -1000, -600000, -1 << 40, math.MinInt32, math.MinInt64 + 1, math.MinInt64, 1<<40 + 1, 1<<40 + 1000, 1<<40 + 600000, 1 << 41, 1 << 62, math.MaxInt64 - 600000, math.MaxInt64 - 1, math.MaxInt64}
}

// P17.2: what is told is known for Keep: just ahead of its end it is, at its end, and behind it, it is not.
func TestKeep(t *testing.T) {
	if Keep != 600000 {
		t.Error(Keep)
	}
	for _, a := range []api.Addr{four, six} {
		for _, told := range []int64{0, 1, 77, 599999, 600000, 1 << 39, 1<<40 - 600001} {
			for behind := range int64(2) {
				c := cache(t, 1500)
				lessens(t, "told", c, told, a, 1300, 1300)
				gets(t, "known", c, told+1, a, 1300)
				gets(t, "just ahead", c, told+599999, a, 1300)
				counts(t, "just ahead", c, told+599999, 1)
				gets(t, "the end", c, told+600000+behind, a, 1500)
				counts(t, "the end", c, told+600000+behind, 0)
			}
			// The same of Len, asked first.
			c := cache(t, 1500)
			lessens(t, "told", c, told, a, 1300, 1300)
			counts(t, "just ahead", c, told+599999, 1)
			counts(t, "the end", c, told+600000, 0)
			gets(t, "the end", c, told+600000, a, 1500)
		}
	}
}

// P17.2: of what has ended Less may tell anew what was known, or more; just ahead of the end it may not.
func TestLessAtTheEnd(t *testing.T) {
	for _, mtu := range []int{1300, 1301, 1499} {
		c := cache(t, 1500)
		lessens(t, "told", c, 5, six, 1300, 1300)
		stays(t, "just ahead", c, 600004, six, mtu)
		lessens(t, "the end", c, 600005, six, mtu, mtu)
		counts(t, "told anew", c, 600005, 1)
		gets(t, "told anew", c, 1200004, six, mtu)
		gets(t, "its end", c, 1200005, six, 1500)
	}
}

// P17.2: what is told again, and is less, is known until Keep later; what is not less turns no end.
func TestToldAgain(t *testing.T) {
	c := cache(t, 1500)
	lessens(t, "told", c, 1000, four, 1400, 1400)
	lessens(t, "again", c, 300000, four, 1300, 1300)
	gets(t, "the first one's end", c, 601000, four, 1300)
	gets(t, "just ahead", c, 899999, four, 1300)
	counts(t, "just ahead", c, 899999, 1)
	gets(t, "the end", c, 900000, four, 1500)

	for _, mtu := range []int{1300, 1301, 1400, 1499, 1500, 1501, math.MaxInt} {
		c := cache(t, 1500)
		lessens(t, "told", c, 1000, four, 1300, 1300)
		stays(t, "no less", c, 1001, four, mtu)
		stays(t, "no less", c, 600999, four, mtu)
		gets(t, "just ahead", c, 600999, four, 1300)
		gets(t, "the end", c, 601000, four, 1500)
		counts(t, "the end", c, 601000, 0)
	}
	// Below the floor it is no less either.
	c = cache(t, 1500)
	lessens(t, "the floor", c, 1000, four, 0, 576)
	stays(t, "the floor", c, 2000, four, 100)
	gets(t, "just ahead", c, 600999, four, 576)
	gets(t, "the end", c, 601000, four, 1500)
}

// P17.2, P17.5: of several addresses just those are known that have not ended.
func TestSomeEnded(t *testing.T) {
	c := cache(t, 1500)
	for i := range 30 {
		lessens(t, "told", c, int64(100*i), addr.Four(10, 0, 0, byte(i)), 1000+i, 1000+i)
	}
	lessens(t, "told again", c, 3000, addr.Four(10, 0, 0, 7), 900, 900)
	for end := range 30 {
		now := int64(600000 + 100*end)
		left := 30 - end
		if end > 7 {
			left++
		}
		counts(t, "just ahead", c, now-1, left)
		if end != 7 {
			left--
		}
		counts(t, "at an end", c, now, left)
		for i := range 30 {
			want := 1000 + i
			switch {
			case i == 7:
				want = 900
			case i <= end:
				want = 1500
			}
			gets(t, "some ended", c, now, addr.Four(10, 0, 0, byte(i)), want)
		}
	}
	counts(t, "one", c, 602999, 1)
	counts(t, "none", c, 603000, 0)
}

// The times of layer 15: one that is none, or an earlier one, counts as the cache's own: to get, to tell, and to count.
func TestTimes(t *testing.T) {
	for _, now := range append(wrongTimes(), 0, 1, 500, 999, 1000) {
		c := cache(t, 1500)
		lessens(t, "told", c, 1000, four, 1400, 1400)
		gets(t, "that time", c, now, four, 1400)
		counts(t, "that time", c, now, 1)
		lessens(t, "that time", c, now, six, 1300, 1300)
		gets(t, "just ahead", c, 600999, six, 1300)
		gets(t, "just ahead", c, now, four, 1400)
		counts(t, "just ahead", c, now, 2)
		counts(t, "the end of both", c, 601000, 0)
		gets(t, "that time", c, now, four, 1500)
		counts(t, "that time", c, now, 0)
		// What ended does not come again.
		stays(t, "that time", c, now, four, 1500)
		lessens(t, "that time", c, now, four, 1450, 1450)
		gets(t, "just ahead", c, 1200999, four, 1450)
		gets(t, "the end", c, 1201000, four, 1500)
	}
}

// The times of layer 15: a cache that was told none yet has 0.
func TestFirstTime(t *testing.T) {
	for _, now := range append(wrongTimes(), 0) {
		c := cache(t, 1500)
		counts(t, "nothing", c, now, 0)
		gets(t, "nothing", c, now, six, 1500)
		lessens(t, "told", c, now, six, 1400, 1400)
		gets(t, "just ahead", c, 599999, six, 1400)
		gets(t, "the end", c, 600000, six, 1500)
	}
}

// The times of layer 15: each call tells the time, also one that does nothing.
func TestEachCallTellsTime(t *testing.T) {
	calls := map[string]func(c *Cache, now int64){
		"Get":                     func(c *Cache, now int64) { c.Get(now, four) },
		"Get of another one":      func(c *Cache, now int64) { c.Get(now, addr.Four(9, 9, 9, 9)) },
		"Len":                     func(c *Cache, now int64) { c.Len(now) },
		"Less":                    func(c *Cache, now int64) { c.Less(now, four, 700) },
		"Less of another one":     func(c *Cache, now int64) { c.Less(now, addr.Four(9, 9, 9, 9), 700) },
		"no less":                 func(c *Cache, now int64) { c.Less(now, four, 1500) },
		"no less, of another one": func(c *Cache, now int64) { c.Less(now, addr.Six(9), 65535) },
		"the greatest int":        func(c *Cache, now int64) { c.Less(now, four, math.MaxInt) },
	}
	for what, call := range calls {
		c := cache(t, 1500)
		lessens(t, what, c, 0, six, 1400, 1400)
		call(c, 599999)
		gets(t, what, c, 0, six, 1400)
		call(c, 600000)
		gets(t, what, c, 0, six, 1500)
		lessens(t, what, c, 5, six, 1300, 1300)
		gets(t, what, c, 1199999, six, 1300)
		gets(t, what, c, 1200000, six, 1500)
		// A call at a time that is none lets it stand.
		lessens(t, what, c, 1200000, six, 1400, 1400)
		for _, now := range wrongTimes() {
			call(c, now)
			gets(t, what, c, 0, six, 1400)
		}
		gets(t, what, c, 1799999, six, 1400)
		gets(t, what, c, 1800000, six, 1500)
	}
}

// The times of layer 15: MaxTime is the greatest one, behind which nothing ends.
func TestGreatestTime(t *testing.T) {
	c := cache(t, 1500)
	first, second, third := addr.Four(1, 0, 0, 1), addr.Four(1, 0, 0, 2), addr.Four(1, 0, 0, 3)
	lessens(t, "ends ahead", c, api.MaxTime-600001, first, 1001, 1001)
	lessens(t, "ends there", c, api.MaxTime-600000, second, 1002, 1002)
	lessens(t, "ends never", c, api.MaxTime-599999, third, 1003, 1003)
	counts(t, "above", c, api.MaxTime+1, 3)
	counts(t, "ahead", c, api.MaxTime-2, 3)
	counts(t, "ahead", c, api.MaxTime-1, 2)
	counts(t, "above", c, api.MaxTime+1, 2)
	counts(t, "the greatest", c, api.MaxTime, 1)
	lessens(t, "told there", c, api.MaxTime, first, 1004, 1004)
	for _, now := range append(wrongTimes(), 0, api.MaxTime-1, api.MaxTime) {
		gets(t, "never ends", c, now, third, 1003)
		gets(t, "never ends", c, now, first, 1004)
		gets(t, "ended", c, now, second, 1500)
		counts(t, "both", c, now, 2)
	}
	lessens(t, "less", c, math.MaxInt64, first, 900, 900)
	stays(t, "no less", c, math.MinInt64, first, 901)
}

// The times of layer 15: what is told while time stands still is all of that time.
func TestTimeStandsStill(t *testing.T) {
	c := cache(t, 1500)
	for i := range 64 {
		lessens(t, "told", c, 42, addr.Six(uint16(i)), 1400-i, 1400-i)
		counts(t, "told", c, 42, i+1)
	}
	counts(t, "just ahead", c, 600041, 64)
	counts(t, "the end of all", c, 600042, 0)
}
