package route

import (
	"fmt"
	"math/rand"
	"slices"
	"strconv"
	"strings"
	"testing"

	"downhaul/addr"
	"downhaul/api"
	"downhaul/checks"
)

// read is the address of a text that must be one.
func read(t *testing.T, text string) api.Addr {
	t.Helper()
	a, e := addr.Parse(text)
	if e != api.OK {
		t.Fatalf("Parse(%q): %v", text, e)
	}
	return a
}

// to is the way to a prefix by its text, such as 10.0.0.0/8.
func to(t *testing.T, text string, port int) Way {
	t.Helper()
	prefix, length, _ := strings.Cut(text, "/")
	n, err := strconv.Atoi(length)
	if err != nil {
		t.Fatal(err)
	}
	return on(read(t, prefix), n, port)
}

// told tells an answer of Add or Drop.
func told(t *testing.T, what string, got, want api.Errno) {
	t.Helper()
	if got != want {
		t.Errorf("%s: %v, not %v", what, got, want)
	}
}

// table is a table of these ways, added in this order.
func table(t *testing.T, ways ...Way) *Table {
	t.Helper()
	tab := New()
	if tab == nil {
		t.Fatal("New() = nil")
	}
	for _, w := range ways {
		told(t, "Add", tab.Add(w), api.OK)
	}
	return tab
}

// short tells a way.
func short(w Way) string {
	text := fmt.Sprintf("%s/%d to %d", addr.Text(w.Prefix), w.Length, w.Port)
	if w.HasVia {
		text += " via " + addr.Text(w.Via)
	}
	return text
}

// has holds that a table has just these ways, in this order.
func has(t *testing.T, what string, tab *Table, want ...Way) {
	t.Helper()
	got := tab.All()
	for i := range max(len(got), len(want)) {
		switch {
		case i >= len(want):
			t.Errorf("%s: %s is told, the way %d of %d", what, short(got[i]), i, len(got))
			return
		case i >= len(got) || got[i] != want[i]:
			t.Errorf("%s: %s is not told as the way %d of %d", what, short(want[i]), i, len(want))
			return
		}
	}
}

// finds holds that the way to an address is that.
func finds(t *testing.T, tab *Table, a api.Addr, want Way) {
	t.Helper()
	if got, e := tab.Find(a); got != want || e != api.OK {
		t.Errorf("Find(%s) = %s, %v, not %s", addr.Text(a), short(got), e, short(want))
	}
}

// fails holds that there is no way to an address, with an error.
func fails(t *testing.T, tab *Table, a api.Addr, want api.Errno) {
	t.Helper()
	if got, e := tab.Find(a); got != (Way{}) || e != want {
		t.Errorf("Find(%v) = %s, %v, not %v", a, short(got), e, want)
	}
}

// refuses holds that a table does not take a way, and is as it was.
func refuses(t *testing.T, what string, tab *Table, w Way, want api.Errno) {
	t.Helper()
	was := tab.All()
	told(t, what, tab.Add(w), want)
	has(t, what, tab, was...)
}

// misses holds that a table has no way of a prefix to let go, and is as it was.
func misses(t *testing.T, what string, tab *Table, prefix api.Addr, length int) {
	t.Helper()
	was := tab.All()
	told(t, what, tab.Drop(prefix, length), api.ErrNone)
	has(t, what, tab, was...)
}

// rising are n ways, in the order in which All tells them; of some of them the prefixes differ in the length alone, of others in the last bits.
func rising(t *testing.T, n int) []Way {
	t.Helper()
	var out []Way
	for i := range 16 {
		out = append(out, on(addr.Four(9, 0, 0, 0), 8+i, i), on(addr.Six(0x2001), 16+i, 16+i))
		out = append(out, via(addr.Four(1, 2, 3, byte(i)), on(addr.Four(10, 0, 0, byte(i)), 32, 32+i)), via(addr.Six(1, uint16(i)), on(addr.Six(0x2002, 0, 0, 0, 0, 0, 0, uint16(i)), 128, 48+i)))
		out = append(out, on(addr.Four(11, byte(16*i), 0, 0), 12, 64+i), on(addr.Six(0x3000, uint16(i)<<12), 20, 80+i))
		out = append(out, on(addr.Four(byte(16+i), 0, 0, 0), 8, 96+i), on(addr.Six(uint16(0x4000+i)), 16, 112+i))
	}
	if len(out) != 128 {
		t.Fatal(len(out))
	}
	out = out[:n]
	slices.SortFunc(out, byWords)
	return out
}

// byWords orders ways by the chapter's words: those of four bytes are ahead, then the first byte that differs tells, then the length.
func byWords(a, b Way) int {
	key := func(w Way) string {
		kind := "4"
		if w.Prefix.Six {
			kind = "6"
		}
		return kind + string(w.Prefix.B[:]) + string(rune(w.Length))
	}
	return strings.Compare(key(a), key(b))
}

// mixed are ways in an order by chance.
func mixed(chance *rand.Rand, ways []Way) []Way {
	out := slices.Clone(ways)
	chance.Shuffle(len(out), func(i, j int) { out[i], out[j] = out[j], out[i] })
	return out
}

// The chapter's example.
func TestExample(t *testing.T) {
	one, two := to(t, "10.0.0.0/8", 1), to(t, "10.1.0.0/16", 2)
	for _, tab := range []*Table{table(t, one, two), table(t, two, one)} {
		finds(t, tab, addr.Four(10, 1, 2, 3), two)
		finds(t, tab, addr.Four(10, 2, 0, 0), one)
		fails(t, tab, addr.Four(11, 0, 0, 0), api.ErrRoute)
		has(t, "both", tab, one, two)
	}
}

// P16.1: New's table is empty, and no two tables have anything in common.
func TestNew(t *testing.T) {
	one, two := table(t), table(t)
	for _, a := range samples() {
		fails(t, one, a, api.ErrRoute)
		for _, length := range []int{0, 8, 32, 128} {
			misses(t, "an empty table", one, a, length)
		}
	}
	has(t, "an empty table", one)
	w := to(t, "10.0.0.0/8", 1)
	told(t, "Add", one.Add(w), api.OK)
	has(t, "the other one", two)
	misses(t, "the other one", two, w.Prefix, w.Length)
	fails(t, two, w.Prefix, api.ErrRoute)
	other := to(t, "10.0.0.0/8", 2)
	told(t, "Add", two.Add(other), api.OK)
	has(t, "one", one, w)
	has(t, "two", two, other)
	told(t, "Drop", one.Drop(w.Prefix, w.Length), api.OK)
	has(t, "one", one)
	has(t, "two", two, other)
}

// P16.1: ways of each length that may be are there, with all their fields.
func TestAddEachLength(t *testing.T) {
	for _, a := range samples() {
		for length := range checks.Longest(a) + 1 {
			w := on(checks.Masked(a, length), length, 2*length%256)
			for _, w := range []Way{w, via(a, w)} {
				tab := table(t, w)
				has(t, "one way", tab, w)
				finds(t, tab, a, w)
				refuses(t, "again", tab, w, api.ErrThere)
			}
		}
	}
	for _, port := range []int{0, 1, 127, 128, 254, 255} {
		w := to(t, "10.0.0.0/8", port)
		has(t, "a port", table(t, w), w)
	}
}

// P16.1: what may not be is refused: of an empty table, of one with ways, and of a full one; also if one of its prefix is there.
func TestAddImpossible(t *testing.T) {
	four, six := to(t, "10.1.0.0/16", 7), to(t, "2001:db8::/32", 8)
	for _, tab := range []*Table{table(t), table(t, four, six), table(t, rising(t, 128)...)} {
		for _, w := range impossible() {
			refuses(t, "impossible", tab, w, api.ErrArg)
		}
	}
}

// P16.1: one of a prefix that is there is refused, also with another port, or another address via; the first one stays.
func TestAddThere(t *testing.T) {
	for _, a := range samples() {
		for _, length := range []int{0, 1, 7, 8, 31, 32, checks.Longest(a)} {
			w := on(checks.Masked(a, length), length, 5)
			other := checks.Turned(a, 3)
			ways := []Way{w, via(a, w), via(other, w), on(w.Prefix, length, 6), via(a, on(w.Prefix, length, 0)), on(w.Prefix, length, 255)}
			for _, first := range ways {
				tab := table(t, first)
				for _, second := range ways {
					refuses(t, "another one", tab, second, api.ErrThere)
				}
				finds(t, tab, a, first)
			}
		}
	}
}

// P16.1: of prefixes that differ in their length alone, in their kind alone, or in one bit alone, each has its way.
func TestAddAlmostThere(t *testing.T) {
	pairs := [][2]Way{
		{to(t, "10.0.0.0/8", 1), to(t, "10.0.0.0/9", 1)},
		{to(t, "0.0.0.0/0", 1), to(t, "0.0.0.0/1", 1)},
		{to(t, "0.0.0.0/0", 1), to(t, "0.0.0.0/32", 1)},
		{to(t, "::/0", 1), to(t, "::/1", 1)},
		{to(t, "::/127", 1), to(t, "::/128", 1)},
		{to(t, "0.0.0.0/0", 1), to(t, "::/0", 1)},
		{to(t, "0.0.0.0/32", 1), to(t, "::/32", 1)},
		{to(t, "10.0.0.0/8", 1), to(t, "a00::/8", 1)},
	}
	for _, a := range samples() {
		n := checks.Longest(a)
		for bit := range n {
			turned := checks.Turned(a, bit)
			pairs = append(pairs, [2]Way{on(a, n, 1), on(turned, n, 1)})
			pairs = append(pairs, [2]Way{on(checks.Masked(a, bit+1), bit+1, 1), on(checks.Masked(turned, bit+1), bit+1, 1)})
		}
	}
	for _, p := range pairs {
		for _, order := range [][2]Way{p, {p[1], p[0]}} {
			one, two := order[0], order[1]
			tab := table(t, one, two)
			refuses(t, "one", tab, one, api.ErrThere)
			refuses(t, "two", tab, two, api.ErrThere)
			told(t, "Drop", tab.Drop(one.Prefix, one.Length), api.OK)
			has(t, "two alone", tab, two)
			misses(t, "one", tab, one.Prefix, one.Length)
		}
	}
}

// P16.1: the 128th way is there, the 129th is refused; of such one that may not be, and one whose prefix is there, for that; if one goes, another one may come.
func TestAddMany(t *testing.T) {
	ways := rising(t, 128)
	tab := table(t, ways[:127]...)
	told(t, "the 128th", tab.Add(ways[127]), api.OK)
	has(t, "128", tab, ways...)
	further := []Way{to(t, "10.0.0.0/8", 1), to(t, "0.0.0.0/0", 1), to(t, "255.255.255.255/32", 1), to(t, "::/0", 1), to(t, "10.0.0.16/32", 1), via(addr.Six(1), to(t, "2001::/64", 1))}
	for _, w := range further {
		refuses(t, "the 129th", tab, w, api.ErrMany)
	}
	for _, w := range ways {
		refuses(t, "the 129th, which is there", tab, w, api.ErrThere)
		refuses(t, "the 129th, which is there with another port", tab, on(w.Prefix, w.Length, 200), api.ErrThere)
		refuses(t, "the 129th, which may not be", tab, on(w.Prefix, w.Length, 256), api.ErrArg)
	}
	for _, w := range ways {
		told(t, "Drop", tab.Drop(w.Prefix, w.Length), api.OK)
		told(t, "another one", tab.Add(further[0]), api.OK)
		refuses(t, "what was dropped, of a full table", tab, w, api.ErrMany)
		told(t, "Drop", tab.Drop(further[0].Prefix, further[0].Length), api.OK)
		told(t, "what was dropped", tab.Add(w), api.OK)
	}
	has(t, "128", tab, ways...)
}

// P16.1, P16.4: what went does not count: there may be 128 however many were added.
func TestAddMoreThanMany(t *testing.T) {
	tab := table(t)
	for i := range 1000 {
		w := on(addr.Four(12, byte(i>>8), byte(i), 0), 24, 1)
		told(t, "Add", tab.Add(w), api.OK)
		refuses(t, "again", tab, w, api.ErrThere)
		told(t, "Drop", tab.Drop(w.Prefix, 24), api.OK)
		misses(t, "again", tab, w.Prefix, 24)
	}
	ways := rising(t, 128)
	for _, w := range ways {
		told(t, "Add", tab.Add(w), api.OK)
	}
	refuses(t, "the 129th", tab, to(t, "12.0.0.0/24", 1), api.ErrMany)
	has(t, "128", tab, ways...)
}

// others are prefixes and lengths that differ from a way's in one thing, and are none of these ways.
func others(w Way, ways []Way) []Way {
	var out []Way
	for length := -2; length <= 130; length++ {
		out = append(out, on(w.Prefix, length, 0), on(checks.OtherKind(w.Prefix), length, 0))
	}
	for _, length := range checks.WrongLengths(w.Prefix) {
		out = append(out, on(w.Prefix, length, 0))
	}
	// Those that are not masked are among these.
	for bit := range 128 {
		out = append(out, on(checks.Turned(w.Prefix, bit), w.Length, 0))
	}
	return slices.DeleteFunc(out, func(o Way) bool {
		return slices.ContainsFunc(ways, func(w Way) bool { return w.Prefix == o.Prefix && w.Length == o.Length })
	})
}

// P16.1: just the way of all the prefix's bytes, its kind and its length goes, and once; then it may be added again, also with another port.
func TestDrop(t *testing.T) {
	ways := rising(t, 128)
	tab := table(t, ways...)
	for i, w := range ways {
		for _, o := range others(w, ways) {
			told(t, "another one", tab.Drop(o.Prefix, o.Length), api.ErrNone)
		}
		has(t, "as it was", tab, ways...)
		rest := slices.Delete(slices.Clone(ways), i, i+1)
		told(t, "Drop", tab.Drop(w.Prefix, w.Length), api.OK)
		has(t, "without it", tab, rest...)
		misses(t, "what was dropped", tab, w.Prefix, w.Length)
		other := on(w.Prefix, w.Length, 250)
		told(t, "anew, with another port", tab.Add(other), api.OK)
		has(t, "with another port", tab, slices.Insert(rest, i, other)...)
		told(t, "Drop", tab.Drop(w.Prefix, w.Length), api.OK)
		told(t, "anew", tab.Add(w), api.OK)
		has(t, "with it", tab, ways...)
	}
}

// P16.1: with bytes behind its fourth, or one bit turned, a prefix of IPv4 is another one.
func TestDropBehindTheFourth(t *testing.T) {
	tab := table(t, to(t, "10.1.0.0/16", 1), to(t, "10.1.0.0/32", 2), to(t, "0.0.0.0/0", 3))
	for _, a := range slices.Concat(checks.Unlikely(10, 1, 0, 0), checks.Unlikely(0, 0, 0, 0)) {
		for _, length := range []int{0, 16, 32, 128} {
			misses(t, "behind the fourth", tab, a, length)
		}
	}
	for bit := range 128 {
		misses(t, "a bit", tab, checks.Turned(addr.Four(10, 1, 0, 0), bit), 16)
		misses(t, "a bit", tab, checks.Turned(addr.Four(10, 1, 0, 0), bit), 32)
		misses(t, "a bit", tab, checks.Turned(api.Addr{}, bit), 0)
	}
}

// P16.1, P16.4: all go, in any order, and all may be added again.
func TestDropAll(t *testing.T) {
	chance := rand.New(rand.NewSource(161))
	ways := rising(t, 128)
	tab := table(t, ways...)
	for range 5 {
		left := slices.Clone(ways)
		for _, w := range mixed(chance, ways) {
			told(t, "Drop", tab.Drop(w.Prefix, w.Length), api.OK)
			left = slices.DeleteFunc(left, func(o Way) bool { return o == w })
			has(t, "the rest", tab, left...)
		}
		for _, w := range ways {
			fails(t, tab, w.Prefix, api.ErrRoute)
			misses(t, "nothing", tab, w.Prefix, w.Length)
		}
		for _, w := range mixed(chance, ways) {
			told(t, "Add", tab.Add(w), api.OK)
		}
		has(t, "all", tab, ways...)
	}
}
