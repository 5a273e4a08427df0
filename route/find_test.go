package route

import (
	"math/rand"
	"slices"
	"testing"

	"downhaul/addr"
	"downhaul/api"
	"downhaul/checks"
)

// P16.2: the way of a prefix is that of just the addresses whose first bits are its own, whatever its length is.
func TestFindEachLength(t *testing.T) {
	for _, a := range samples() {
		for length := range checks.Longest(a) + 1 {
			w := via(a, on(checks.Masked(a, length), length, length))
			tab := table(t, w)
			finds(t, tab, a, w)
			finds(t, tab, w.Prefix, w)
			for bit := range checks.Longest(a) {
				if turned := checks.Turned(a, bit); bit < length {
					fails(t, tab, turned, api.ErrRoute)
				} else {
					finds(t, tab, turned, w)
				}
			}
			other := addr.Four(a.B[0], a.B[1], a.B[2], a.B[3])
			if other.Six = !a.Six; addr.May(other) {
				fails(t, tab, other, api.ErrRoute)
			}
		}
	}
}

// nested are ways to an address, of all lengths but one, so that there are no more than 128.
func nested(a api.Addr, without int) []Way {
	var out []Way
	for length := range checks.Longest(a) + 1 {
		if length != without {
			out = append(out, on(checks.Masked(a, length), length, length))
		}
	}
	return out
}

// P16.2, P16.3: of several prefixes in which an address lies the longest one is found, of all its bits too, and when that was dropped, the next one, till there is none.
func TestFindNested(t *testing.T) {
	chance := rand.New(rand.NewSource(162))
	for _, a := range samples()[4:] {
		n := checks.Longest(a)
		for _, without := range []int{0, n / 2, n} {
			ways := nested(a, without)
			tab := table(t, mixed(chance, ways)...)
			has(t, "nested", tab, inOrder(ways)...)
			for len(ways) > 0 {
				last := ways[len(ways)-1]
				finds(t, tab, a, last)
				for bit := range n {
					// Up to that bit it is the same.
					at := slices.IndexFunc(ways, func(w Way) bool { return w.Length > bit })
					if turned := checks.Turned(a, bit); at < 0 {
						finds(t, tab, turned, last)
					} else if at > 0 {
						finds(t, tab, turned, ways[at-1])
					} else {
						fails(t, tab, turned, api.ErrRoute)
					}
				}
				told(t, "Drop", tab.Drop(last.Prefix, last.Length), api.OK)
				ways = ways[:len(ways)-1]
			}
			fails(t, tab, a, api.ErrRoute)
		}
	}
}

// inOrder are ways in the order in which All tells them.
func inOrder(ways []Way) []Way {
	out := slices.Clone(ways)
	slices.SortFunc(out, byWords)
	return out
}

// P16.2: when one between was dropped, the longer and the shorter ones stay.
func TestFindBetween(t *testing.T) {
	list := []Way{to(t, "0.0.0.0/0", 0), to(t, "10.0.0.0/8", 1), to(t, "10.1.0.0/16", 2), to(t, "10.1.2.0/24", 3), to(t, "10.1.2.3/32", 4)}
	at := []api.Addr{addr.Four(11, 1, 2, 3), addr.Four(10, 2, 2, 3), addr.Four(10, 1, 3, 3), addr.Four(10, 1, 2, 4), addr.Four(10, 1, 2, 3)}
	for gone := 1; gone < len(list); gone++ {
		tab := table(t, list...)
		told(t, "Drop", tab.Drop(list[gone].Prefix, list[gone].Length), api.OK)
		for i, a := range at {
			if i == gone {
				i--
			}
			finds(t, tab, a, list[i])
		}
	}
}

// P16.2: an address lies in the prefix of length 0 of its kind alone, in that of all its bits, in several, or in none, where prefixes of both kinds are there.
func TestFindOfBothKinds(t *testing.T) {
	fourAll, sixAll := via(addr.Four(10, 0, 0, 254), to(t, "0.0.0.0/0", 10)), via(addr.Six(0xFE80), to(t, "::/0", 20))
	four, six := to(t, "10.0.0.0/8", 11), to(t, "a00::/8", 21)
	fourOne, sixOne := via(addr.Four(1, 1, 1, 1), to(t, "10.1.2.3/32", 12)), to(t, "a01:203::/128", 22)
	tab := table(t, fourAll, sixAll, four, six, fourOne, sixOne)
	rows := []struct {
		text string
		ways []Way // in which it lies, the longest one first
	}{
		{"10.1.2.3", []Way{fourOne, four, fourAll}},
		{"10.1.2.2", []Way{four, fourAll}},
		{"10.0.0.0", []Way{four, fourAll}},
		{"10.255.255.255", []Way{four, fourAll}},
		{"9.255.255.255", []Way{fourAll}},
		{"11.0.0.0", []Way{fourAll}},
		{"0.0.0.0", []Way{fourAll}},
		{"255.255.255.255", []Way{fourAll}},
		{"a01:203::", []Way{sixOne, six, sixAll}},
		{"a01:203::1", []Way{six, sixAll}},
		{"a00::", []Way{six, sixAll}},
		{"aff:ffff:ffff:ffff:ffff:ffff:ffff:ffff", []Way{six, sixAll}},
		{"9ff:ffff::", []Way{sixAll}},
		{"b00::", []Way{sixAll}},
		{"::", []Way{sixAll}},
		{"ffff:ffff:ffff:ffff:ffff:ffff:ffff:ffff", []Way{sixAll}},
	}
	for _, gone := range []Way{{Length: -1}, fourOne, sixOne, fourAll, six, four, sixAll} {
		want := api.OK
		if gone.Length < 0 {
			want = api.ErrNone
		}
		told(t, "Drop", tab.Drop(gone.Prefix, gone.Length), want)
		for i := range rows {
			r := &rows[i]
			r.ways = slices.DeleteFunc(r.ways, func(w Way) bool { return w == gone })
			if len(r.ways) > 0 {
				finds(t, tab, read(t, r.text), r.ways[0])
			} else {
				fails(t, tab, read(t, r.text), api.ErrRoute)
			}
		}
	}
	has(t, "none", tab)
}

// P16.2: an address that may not be has no way, also where there are no ways at all, or one that all have.
func TestFindImpossible(t *testing.T) {
	for _, tab := range []*Table{table(t), table(t, to(t, "0.0.0.0/0", 1), to(t, "::/0", 2), to(t, "10.1.2.3/32", 3)), table(t, rising(t, 128)...)} {
		for _, a := range slices.Concat(checks.Unlikely(10, 1, 2, 3), checks.Unlikely(0, 0, 0, 0), checks.Unlikely(255, 255, 255, 255), checks.Unlikely(200, 1, 1, 1)) {
			fails(t, tab, a, api.ErrArg)
		}
	}
}

// P16.2, P16.5: all ways, in order by their addresses, those of four bytes ahead, then by their lengths, in whatever order they were added: none, one, some, and 128.
func TestAll(t *testing.T) {
	chance := rand.New(rand.NewSource(163))
	for _, n := range []int{0, 1, 2, 3, 8, 40, 127, 128} {
		ways := rising(t, n)
		back := slices.Clone(ways)
		slices.Reverse(back)
		has(t, "rising", table(t, ways...), ways...)
		has(t, "falling", table(t, back...), ways...)
		for range 20 {
			has(t, "mixed", table(t, mixed(chance, ways)...), ways...)
		}
	}
}

// P16.2: a known order, in which neither the port nor the address via counts.
func TestAllKnown(t *testing.T) {
	want := []Way{
		to(t, "0.0.0.0/0", 9), to(t, "0.0.0.0/1", 8), via(addr.Four(9, 9, 9, 9), to(t, "0.0.0.0/32", 0)), to(t, "0.0.0.1/32", 200),
		to(t, "9.255.255.255/32", 7), to(t, "10.0.0.0/7", 255), via(addr.Four(8, 8, 8, 8), to(t, "10.0.0.0/8", 6)), to(t, "10.0.0.0/9", 5), to(t, "10.0.0.0/10", 4), to(t, "10.0.0.0/32", 3), to(t, "10.0.0.1/32", 2), to(t, "10.1.0.0/16", 1),
		to(t, "127.0.0.0/8", 3), to(t, "128.0.0.0/1", 2), to(t, "255.255.255.255/32", 1),
		to(t, "::/0", 9), to(t, "::/9", 8), to(t, "::/10", 7), to(t, "::/128", 6), to(t, "::1/128", 5), to(t, "::100/120", 4), to(t, "0:1::/32", 3),
		via(addr.Six(9), to(t, "a00::/7", 2)), to(t, "a00::/8", 1), to(t, "a00::/99", 0), to(t, "a00::/100", 9), to(t, "7fff::/16", 8), to(t, "8000::/1", 7), to(t, "ffff:ffff:ffff:ffff:ffff:ffff:ffff:ffff/128", 6),
	}
	chance := rand.New(rand.NewSource(164))
	for range 200 {
		has(t, "mixed", table(t, mixed(chance, want)...), want...)
	}
}
