package route

import (
	"math"
	"math/rand"
	"slices"
	"testing"

	"downhaul/addr"
	"downhaul/api"
	"downhaul/checks"
)

// P16.2, R1, R5: a nil table, and ones that New did not give, a copy among them: ErrNil, nothing, whatever they are asked, also if that may not be.
func TestNoTables(t *testing.T) {
	given := table(t, to(t, "10.0.0.0/8", 1), to(t, "::/0", 2))
	copied := *given
	ways := append(impossible(), Way{}, to(t, "10.0.0.0/8", 1), to(t, "10.1.0.0/16", 2), via(addr.Six(1), to(t, "2001::/16", 3)))
	for _, tab := range []*Table{nil, {}, new(Table), &copied} {
		for _, w := range ways {
			told(t, "Add", tab.Add(w), api.ErrNil)
			told(t, "Drop", tab.Drop(w.Prefix, w.Length), api.ErrNil)
			fails(t, tab, w.Prefix, api.ErrNil)
			fails(t, tab, w.Via, api.ErrNil)
		}
		for _, length := range []int{math.MinInt, -1, 0, 32, 33, 128, 129, math.MaxInt} {
			told(t, "Drop", tab.Drop(addr.Four(10, 0, 0, 0), length), api.ErrNil)
		}
		has(t, "no table", tab)
	}
	// What the copy was of is as it was.
	has(t, "given", given, to(t, "10.0.0.0/8", 1), to(t, "::/0", 2))
	told(t, "Add", given.Add(to(t, "10.0.0.0/9", 3)), api.OK)
	has(t, "the copy", &copied)
	has(t, "given", given, to(t, "10.0.0.0/8", 1), to(t, "10.0.0.0/9", 3), to(t, "::/0", 2))
}

// R3: the same calls do the same, to one table after the other, and to two in turn.
func TestSameCalls(t *testing.T) {
	for seed := range int64(15) {
		var all [][]string
		tables := []*Table{New(), New(), New()}
		play := func(tab *Table, chance *rand.Rand) []string {
			w, p := anyWay(chance), anyPrefix(chance)
			out := []string{tab.Add(w).Error(), tab.Drop(p.Prefix, p.Length).Error()}
			return append(out, tellsOf(tab, nears(chance, 3))...)
		}
		one := rand.New(rand.NewSource(seed))
		for range 120 {
			all = append(all, play(tables[0], one))
		}
		two, three := rand.New(rand.NewSource(seed)), rand.New(rand.NewSource(seed))
		for i := range all {
			if a, b := play(tables[1], two), play(tables[2], three); !slices.Equal(a, all[i]) || !slices.Equal(b, all[i]) {
				t.Fatalf("%d: %v, %v, not %v", i, a, b, all[i])
			}
		}
	}
}

// R3: a table that is asked again, in another order, answers the same: asking turns nothing.
func TestAskedAgain(t *testing.T) {
	chance := rand.New(rand.NewSource(170))
	tab := New()
	for range 200 {
		tab.Add(anyWay(chance))
	}
	type answer struct {
		w Way
		e api.Errno
		n int
	}
	ask := func() api.Addr { return anyNear(chance) }
	answers := func(a api.Addr) answer {
		w, e := tab.Find(a)
		return answer{w, e, len(tab.All())}
	}
	checks.Again(2000, ask, answers, func(a api.Addr, first, then answer) {
		t.Fatalf("Find(%v): first %v, then %v", a, first, then)
	})
	checks.Again(2000, func() Way { return anyWay(chance) }, May, func(w Way, first, then bool) {
		t.Fatalf("May(%v): first %t, then %t", w, first, then)
	})
}

// spoil writes into a list of ways, and behind it, as far as there is room.
func spoil(list []Way) {
	list = list[:cap(list)]
	for i := range list {
		list[i] = Way{Prefix: api.Addr{Six: true, B: checks.Filled(0x55)}, Length: 77, Port: 5, HasVia: true}
	}
}

// R4: All's answer is the caller's: turning it turns nothing that a table has, and none of its other answers.
func TestAllIsTheCallers(t *testing.T) {
	for _, n := range []int{0, 1, 2, 5, 100, 128} {
		ways := rising(t, n)
		tab := table(t, ways...)
		one, two := tab.All(), tab.All()
		spoil(one)
		if !slices.Equal(two, ways) {
			t.Errorf("of %d: two answers share their ways", n)
		}
		has(t, "spoilt", tab, ways...)
		slices.Reverse(two)
		has(t, "reversed", tab, ways...)
		three := append(tab.All(), Way{Port: 9})
		three[0].Port = 8
		has(t, "appended", tab, ways...)
		for _, w := range ways {
			told(t, "Drop", tab.Drop(w.Prefix, w.Length), api.OK)
		}
		has(t, "none", tab)
	}
}

// R4: an answer of All stays as it was while the table is turned, and so does one of Find.
func TestAnswersStay(t *testing.T) {
	ways := rising(t, 128)
	tab := table(t, ways[:100]...)
	var answers [][]Way
	var want [][]Way
	keep := func(left ...[]Way) {
		answers = append(answers, tab.All())
		want = append(want, slices.Concat(left...))
	}
	keep(ways[:100])
	for i := range 100 {
		found, e := tab.Find(ways[i].Prefix)
		was := found
		told(t, "Find", e, api.OK)
		told(t, "Drop", tab.Drop(ways[i].Prefix, ways[i].Length), api.OK)
		told(t, "Add", tab.Add(on(ways[i].Prefix, ways[i].Length, 254)), api.OK)
		told(t, "Drop", tab.Drop(ways[i].Prefix, ways[i].Length), api.OK)
		keep(ways[i+1 : 100])
		if found != was {
			t.Error("what was found is turned")
		}
	}
	for _, w := range ways[100:] {
		told(t, "Add", tab.Add(w), api.OK)
	}
	for i, got := range answers {
		if !slices.Equal(got, want[i]) {
			t.Errorf("the answer %d is turned", i)
		}
	}
}

// R4: a way that is turned once it was added turns nothing that is there; it stays as it was.
func TestWaysAreNotKept(t *testing.T) {
	for _, w := range rising(t, 128) {
		tab, was := table(t), w
		told(t, "Add", tab.Add(w), api.OK)
		if w != was {
			t.Errorf("%s was turned", short(was))
		}
		w.Prefix.B[0] ^= 1
		w.Length, w.Port, w.HasVia, w.Via = 1, 9, !w.HasVia, addr.Four(7, 7, 7, 7)
		has(t, "turned", tab, was)
	}
}

// R6: a table without ways, however it came to that, tells none.
func TestNoWays(t *testing.T) {
	tab := table(t)
	for range 3 {
		if got := tab.All(); len(got) != 0 {
			t.Error(got)
		}
		w := to(t, "10.0.0.0/8", 1)
		told(t, "Add", tab.Add(w), api.OK)
		told(t, "Drop", tab.Drop(w.Prefix, w.Length), api.OK)
	}
}
