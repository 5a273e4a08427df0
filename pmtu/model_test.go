package pmtu

import (
	"math"
	"math/rand"
	"slices"
	"testing"

	"downhaul/api"
	"downhaul/checks"
)

// model is a cache by the chapter's words: what was told of which address, also what has ended.
type model struct {
	own  int
	now  int64
	told []telling
}

// telling is what was told of an address.
type telling struct {
	a     api.Addr
	mtu   int
	until int64
}

// at tells it the time.
func (m *model) at(now int64) {
	if now >= 0 && now <= 1<<40 && now >= m.now {
		m.now = now
	}
}

// known is what is known of others than an address, and of that one.
func (m *model) known(a api.Addr) (others, own []telling) {
	for _, k := range m.told {
		switch {
		case k.until <= m.now:
		case k.a == a:
			own = append(own, k)
		default:
			others = append(others, k)
		}
	}
	return others, own
}

// get is what a cache answers of an address.
func (m *model) get(now int64, a api.Addr) int {
	m.at(now)
	if _, own := m.known(a); own != nil {
		return own[0].mtu
	}
	return m.own
}

// less is what it answers of an MTU.
func (m *model) less(now int64, a api.Addr, mtu int) bool {
	m.at(now)
	if mtu < floorByWords(a) {
		mtu = floorByWords(a)
	}
	if mtu >= m.get(now, a) {
		return false
	}
	others, _ := m.known(a)
	if len(others) == 64 {
		slices.SortFunc(others, goesFirst)
		others = others[1:]
	}
	m.told = append(others, telling{a, mtu, m.now + 600000})
	return true
}

// goesFirst orders what is known by what goes first.
func goesFirst(a, b telling) int {
	switch {
	case a.until < b.until:
		return -1
	case a.until > b.until:
		return 1
	}
	return byWords(a.a, b.a)
}

// len is how many are known.
func (m *model) len(now int64) int {
	m.at(now)
	others, own := m.known(api.Addr{})
	return len(others) + len(own)
}

// twin is a cache, with the model that it is held to.
type twin struct {
	*Cache
	model model
	pool  []api.Addr
	told  map[string]int // how often something came to pass
}

// newTwin is a twin of that MTU, which is asked of these addresses.
func newTwin(t *testing.T, mtu int, pool []api.Addr) *twin {
	return &twin{cache(t, mtu), model{own: mtu}, pool, map[string]int{}}
}

// hold holds that both know the same, and that no MTU is below the floor, or above the cache's own.
func (w *twin) hold(t *testing.T, now int64) {
	t.Helper()
	if got, want := w.Len(now), w.model.len(now); got != want || got > 64 {
		t.Fatalf("Len(%d) = %d, not %d", now, got, want)
	}
	for _, a := range w.pool {
		got, want := w.Get(now, a), w.model.get(now, a)
		if got != want || got < floorByWords(a) || got > w.model.own {
			t.Fatalf("Get(%d, %v) = %d, not %d", now, a, got, want)
		}
	}
}

// less tells both of an MTU.
func (w *twin) less(t *testing.T, now int64, a api.Addr, mtu int) {
	t.Helper()
	was := w.model.len(w.model.now)
	if w.model.len(now) < was {
		w.told["ended"]++
	}
	others, own := w.model.known(a)
	got, want := w.Less(now, a, mtu), w.model.less(now, a, mtu)
	switch {
	case got != want:
		t.Fatalf("Less(%d, %v, %d) = %t", now, a, mtu, got)
	case !got:
		w.told["no less"]++
	case len(own) > 0:
		w.told["less again"]++
	case len(others) == 64:
		w.told["one goes"]++
	default:
		w.told["less"]++
	}
	w.hold(t, now)
}

// pool are n addresses by chance, of which some differ in one bit, or in their kind, alone; few of them may not be.
func pool(chance *rand.Rand, n int) []api.Addr {
	var out []api.Addr
	for len(out) < n {
		a := checks.AnyAddress(chance.Intn)
		out = append(out, a)
		switch chance.Intn(6) {
		case 0:
			out = append(out, checks.OtherKind(a))
		case 1:
			out = append(out, checks.Turned(a, chance.Intn(128)))
		case 2:
			out = append(out, checks.Turned(a, chance.Intn(32)))
		}
	}
	return out[:n]
}

// anyTime is a time by chance: most of them are ahead by a little.
func anyTime(chance *rand.Rand, now int64) int64 {
	wrong := append(wrongTimes(), 0, now, now-1, now/2, now-600000)
	if n := chance.Intn(100); n < len(wrong) {
		return wrong[n]
	}
	return now + int64(chance.Intn(2)*chance.Intn(20000))
}

// anyMTU is an MTU by chance: many are near to the floors, or to the cache's own.
func anyMTU(chance *rand.Rand, own int) int {
	switch chance.Intn(8) {
	case 0:
		return belowFloors()[chance.Intn(len(belowFloors()))]
	case 1:
		return []int{575, 576, 577, 1279, 1280, 1281}[chance.Intn(6)]
	case 2:
		return []int{own, own + 1, 65536, math.MaxInt}[chance.Intn(4)]
	}
	return own - chance.Intn(500)
}

// P17.1, P17.2, P17.3: whatever is told, and whenever, by chance: each answer is that of the chapter's words.
func TestByChance(t *testing.T) {
	told := map[string]int{}
	for seed := range int64(60) {
		chance := rand.New(rand.NewSource(1700 + seed))
		own := []int{1280, 1281, 1500, 9000, 65535}[chance.Intn(5)]
		w := newTwin(t, own, pool(chance, []int{1, 2, 30, 64, 65, 70, 150}[chance.Intn(7)]))
		for range 400 {
			now, a := anyTime(chance, w.model.now), w.pool[chance.Intn(len(w.pool))]
			switch chance.Intn(12) {
			case 0:
				if got, want := w.Get(now, a), w.model.get(now, a); got != want {
					t.Fatalf("Get(%d, %v) = %d, not %d", now, a, got, want)
				}
			case 1:
				w.hold(t, now)
			default:
				w.less(t, now, a, anyMTU(chance, own))
			}
		}
		for k, n := range w.told {
			told[k] += n
		}
	}
	for _, k := range []string{"no less", "less", "less again", "ended"} {
		if told[k] < 500 {
			t.Errorf("%s: only %d", k, told[k])
		}
	}
}

// P17.2: the same of a cache that is full, or nearly: many are told at one time.
func TestFullByChance(t *testing.T) {
	told := map[string]int{}
	for seed := range int64(20) {
		chance := rand.New(rand.NewSource(1800 + seed))
		w := newTwin(t, 9000, pool(chance, 120))
		now := int64(0)
		for range 400 {
			if chance.Intn(20) == 0 {
				now += int64(chance.Intn(2) * chance.Intn(400000))
			}
			w.less(t, now, w.pool[chance.Intn(120)], 9000-chance.Intn(8000))
		}
		for k, n := range w.told {
			told[k] += n
		}
	}
	for _, k := range []string{"no less", "less", "less again", "one goes", "ended"} {
		if told[k] < 50 {
			t.Errorf("%s: only %d", k, told[k])
		}
	}
}

// all are what a cache tells of some addresses, at its own time.
func all(c *Cache, list []api.Addr) []int {
	var out []int
	for _, a := range list {
		out = append(out, c.Get(0, a))
	}
	return out
}

// P17.4: what is known of an address grows at its end alone, if no more are told of than there may be: that is Keep behind the last time that it was less.
func TestGrowsAtItsEndAlone(t *testing.T) {
	grown := 0
	for seed := range int64(40) {
		chance := rand.New(rand.NewSource(1900 + seed))
		list := pool(chance, 64)
		c, ends := cache(t, 9000), map[api.Addr]int64{}
		now := int64(0)
		for range 600 {
			was := all(c, list)
			now += int64(chance.Intn(2) * chance.Intn(20000))
			c.Len(now)
			then := all(c, list)
			for i, a := range list {
				if ended := was[i] < 9000 && ends[a] <= now; ended && then[i] != 9000 || !ended && then[i] != was[i] {
					t.Fatalf("at %d %v has %d, and had %d, known until %d", now, a, then[i], was[i], ends[a])
				} else if ended {
					grown++
				}
			}
			a := list[chance.Intn(64)]
			if c.Less(now, a, anyMTU(chance, 9000)) {
				ends[a] = now + 600000
			}
			for i, got := range all(c, list) {
				if got > then[i] {
					t.Fatalf("Less of %v: %v has %d, and had %d", a, list[i], got, then[i])
				}
			}
		}
	}
	if grown < 500 {
		t.Error(grown)
	}
}

// P17.5: what is told of one address turns no other one's, but that one of these may go, where 64 others are known.
func TestTurnsNoOther(t *testing.T) {
	gone := 0
	for seed := range int64(40) {
		chance := rand.New(rand.NewSource(2000 + seed))
		list := pool(chance, 90)
		c := cache(t, 9000)
		now := int64(0)
		for range 400 {
			now += int64(chance.Intn(2) * chance.Intn(8000))
			a, n := list[chance.Intn(90)], c.Len(now)
			was, own := all(c, list), c.Get(now, a)
			less := c.Less(now, a, anyMTU(chance, 9000))
			lost := map[api.Addr]bool{}
			for i, got := range all(c, list) {
				b := list[i]
				if a == b || got == was[i] {
					continue
				}
				if lost[b] = true; got != 9000 || !less || n != 64 || own != 9000 || len(lost) > 1 {
					t.Fatalf("Less of %v turns %v: %d, and was %d", a, b, got, was[i])
				}
			}
			gone += len(lost)
		}
	}
	if gone < 500 {
		t.Error(gone)
	}
}
