package route

import (
	"fmt"
	"math/rand"
	"slices"
	"testing"

	"downhaul/addr"
	"downhaul/api"
	"downhaul/checks"
)

// model is a table by the chapter's words: its ways, in the order in which they were added.
type model []Way

// place is where the way of a prefix is; below 0, if it is not there.
func (m model) place(prefix api.Addr, length int) int {
	return slices.IndexFunc(m, func(w Way) bool { return w.Prefix == prefix && w.Length == length })
}

// add is what a table answers of a way.
func (m *model) add(w Way) api.Errno {
	switch {
	case !mayByWords(w):
		return api.ErrArg
	case m.place(w.Prefix, w.Length) >= 0:
		return api.ErrThere
	case len(*m) == 128:
		return api.ErrMany
	}
	*m = append(*m, w)
	return api.OK
}

// drop is what it answers of a prefix that goes.
func (m *model) drop(prefix api.Addr, length int) api.Errno {
	at := m.place(prefix, length)
	if at < 0 {
		return api.ErrNone
	}
	*m = slices.Delete(*m, at, at+1)
	return api.OK
}

// find is what it answers of an address.
func (m model) find(a api.Addr) (Way, api.Errno) {
	if !addr.May(a) {
		return Way{}, api.ErrArg
	}
	found := Way{Length: -1}
	for _, w := range m {
		if checks.Lies(a, w.Prefix, w.Length) && w.Length > found.Length {
			found = w
		}
	}
	if found.Length < 0 {
		return Way{}, api.ErrRoute
	}
	return found, api.OK
}

// twin is a table, with the model that it is held to, and how often each call answered what.
type twin struct {
	*Table
	model model
	tells map[string]int
}

// newTwin is a twin without ways.
func newTwin() *twin { return &twin{New(), nil, map[string]int{}} }

// hold holds that both answer a call the same, and have the same ways then.
func (w *twin) hold(t *testing.T, what string, got, want any, e, f api.Errno) {
	t.Helper()
	if got != want || e != f {
		t.Fatalf("%s: %v, %v, not %v, %v", what, got, e, want, f)
	}
	has(t, what, w.Table, inOrder(w.model)...)
	if t.Failed() {
		t.FailNow()
	}
	w.tells[fmt.Sprint(what, " ", e)]++
}

// anyNear is an address by chance, near to some others of its kind: many of its bits are theirs. Few of them may not be.
func anyNear(chance *rand.Rand) api.Addr {
	a := []api.Addr{addr.Four(10, 1, 2, 3), addr.Six(0xA01, 0x203), addr.Four(0, 0, 0, 0), addr.Six()}[chance.Intn(4)]
	for range chance.Intn(3) {
		bits := checks.Longest(a)
		if chance.Intn(60) == 0 {
			bits = 128
		}
		a = checks.Turned(a, chance.Intn(bits))
	}
	if chance.Intn(40) == 0 {
		a.Six = !a.Six
	}
	return a
}

// anyPrefix is a prefix by chance, as a way: most of them are masked to themselves.
func anyPrefix(chance *rand.Rand) Way {
	a := anyNear(chance)
	length := []int{0, 8, 16, 32, 128, chance.Intn(checks.Longest(a) + 1)}[chance.Intn(6)]
	if length = min(length, checks.Longest(a)); chance.Intn(30) == 0 {
		return on(a, chance.Intn(140)-5, 0)
	}
	if chance.Intn(20) > 0 {
		a = checks.Masked(a, length)
	}
	return on(a, length, 0)
}

// anyWay is a way by chance: most of them may be.
func anyWay(chance *rand.Rand) Way {
	w := anyPrefix(chance)
	if w.Port = chance.Intn(256); chance.Intn(60) == 0 {
		w.Port = wrongPorts()[chance.Intn(len(wrongPorts()))]
	}
	if chance.Intn(3) == 0 {
		w.HasVia, w.Via = true, anyNear(chance)
		w.Via.Six = w.Prefix.Six
	}
	switch chance.Intn(60) {
	case 0:
		w.HasVia = !w.HasVia
	case 1:
		w.Via.Six = !w.Via.Six
	case 2:
		w.Via = anyNear(chance)
	}
	return w
}

// step is one call by chance, of both.
func (w *twin) step(t *testing.T, chance *rand.Rand) {
	t.Helper()
	switch n := chance.Intn(10); {
	case n < 4:
		way := anyWay(chance)
		w.hold(t, "Add", nil, nil, w.Add(way), w.model.add(way))
	case n < 6:
		p := anyPrefix(chance)
		if len(w.model) > 0 && chance.Intn(2) == 0 {
			p = w.model[chance.Intn(len(w.model))]
		}
		w.hold(t, "Drop", nil, nil, w.Drop(p.Prefix, p.Length), w.model.drop(p.Prefix, p.Length))
	default:
		a := anyNear(chance)
		got, e := w.Find(a)
		want, f := w.model.find(a)
		w.hold(t, "Find", got, want, e, f)
	}
}

// P16.1, P16.2, P16.3, R7: whatever is called, by chance: each answer is that of the chapter's words, and what answers an error turns nothing.
func TestByChance(t *testing.T) {
	tells := map[string]int{}
	for seed := range int64(60) {
		chance := rand.New(rand.NewSource(1600 + seed))
		w := newTwin()
		for range 500 {
			w.step(t, chance)
		}
		for k, n := range w.tells {
			tells[k] += n
		}
	}
	for _, k := range []string{"Add error 0", "Add error 1", "Add error 7", "Drop error 0", "Drop error 6", "Find error 0", "Find error 1", "Find error 17"} {
		if tells[k] < 100 {
			t.Errorf("%s: only %d", k, tells[k])
		}
	}
}

// P16.1: the same of a table that is full, or nearly.
func TestFullByChance(t *testing.T) {
	chance := rand.New(rand.NewSource(165))
	w := newTwin()
	for len(w.model) < 128 {
		way := anyWay(chance)
		w.hold(t, "Add", nil, nil, w.Add(way), w.model.add(way))
	}
	for range 3000 {
		way := anyWay(chance)
		w.hold(t, "Add", nil, nil, w.Add(way), w.model.add(way))
		w.step(t, chance)
	}
	for _, k := range []string{"Add error 0", "Add error 1", "Add error 5", "Add error 7"} {
		if w.tells[k] < 100 {
			t.Errorf("%s: only %d", k, w.tells[k])
		}
	}
}

// P16.1: ways by chance: whether they may be is told as the chapter's words have it.
func TestMayByChance(t *testing.T) {
	chance := rand.New(rand.NewSource(166))
	tells := map[bool]int{}
	for range 200000 {
		w := anyWay(chance)
		checkMay(t, w, mayByWords(w))
		tells[mayByWords(w)]++
	}
	if tells[false] < 10000 || tells[true] < 10000 {
		t.Error(tells)
	}
}

// P16.3: what is found is one of the ways, the address lies in its prefix, and no longer one does.
func TestFoundIsLongest(t *testing.T) {
	chance := rand.New(rand.NewSource(167))
	found := 0
	for range 300 {
		tab := New()
		for range chance.Intn(200) {
			tab.Add(anyWay(chance))
		}
		all := tab.All()
		for range 30 {
			a := anyNear(chance)
			got, e := tab.Find(a)
			for _, w := range all {
				if in := addr.May(a) && checks.Lies(a, w.Prefix, w.Length); in && (e != api.OK || w.Length > got.Length) {
					t.Fatalf("Find(%v) = %s, %v, and not %s", a, short(got), e, short(w))
				}
			}
			if e != api.OK {
				continue
			}
			if found++; !slices.Contains(all, got) || !checks.Lies(a, got.Prefix, got.Length) {
				t.Fatalf("Find(%v) = %s", a, short(got))
			}
		}
	}
	if found < 3000 {
		t.Error(found)
	}
}

// tellsOf are what a table tells of each address, and All.
func tellsOf(tab *Table, at []api.Addr) []string {
	var out []string
	for _, a := range at {
		w, e := tab.Find(a)
		out = append(out, fmt.Sprint(w, e))
	}
	return append(out, fmt.Sprint(tab.All()))
}

// nears are some addresses by chance.
func nears(chance *rand.Rand, n int) []api.Addr {
	var out []api.Addr
	for range n {
		out = append(out, anyNear(chance))
	}
	return out
}

// P16.4: ways that were added and dropped again, in any order, with refused ones between, turned nothing.
func TestAddedAndDropped(t *testing.T) {
	chance := rand.New(rand.NewSource(168))
	for range 100 {
		tab, at := New(), nears(chance, 30)
		for range chance.Intn(60) {
			tab.Add(anyWay(chance))
		}
		was := tellsOf(tab, at)
		var more []Way
		for range chance.Intn(100) {
			if w := anyWay(chance); tab.Add(w) == api.OK {
				more = append(more, w)
			}
		}
		for _, w := range mixed(chance, more) {
			told(t, "Drop", tab.Drop(w.Prefix, w.Length), api.OK)
		}
		if got := tellsOf(tab, at); !slices.Equal(got, was) {
			t.Fatalf("%d ways were added and dropped: %v, not %v", len(more), got, was)
		}
	}
}

// P16.5: in whatever order ways are added, the same is found, and told.
func TestAnyOrder(t *testing.T) {
	chance := rand.New(rand.NewSource(169))
	for range 100 {
		first, at := New(), nears(chance, 30)
		for range chance.Intn(200) {
			first.Add(anyWay(chance))
		}
		was := tellsOf(first, at)
		for range 4 {
			if got := tellsOf(table(t, mixed(chance, first.All())...), at); !slices.Equal(got, was) {
				t.Fatalf("%v, not %v", got, was)
			}
		}
	}
}
