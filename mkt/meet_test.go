package mkt

import (
	"math"
	"slices"
	"testing"

	"downhaul/addr"
	"downhaul/api"
	"downhaul/checks"
)

// meetByWords tells by the chapter's words whether two meet: of all pairs, such of their own addresses and ports are tried.
func meetByWords(a, b Key) bool {
	if !mayByWords(a) || !mayByWords(b) {
		return false
	}
	for _, remote := range []api.Addr{a.Prefix, b.Prefix} {
		for _, localPort := range []uint16{a.LocalPort, b.LocalPort} {
			for _, remotePort := range []uint16{a.RemotePort, b.RemotePort} {
				p := between(api.Addr{}, localPort, remote, remotePort)
				if governsByWords(a, p) && governsByWords(b, p) {
					return true
				}
			}
		}
	}
	return false
}

// checkMeet holds that two meet, or that they do not, in either order.
func checkMeet(t *testing.T, a, b Key, want bool) {
	t.Helper()
	if got := Meet(a, b); got != want {
		t.Errorf("Meet(%+v, %+v) = %t", a, b, got)
	}
	if got := Meet(b, a); got != want {
		t.Errorf("Meet(%+v, %+v) = %t", b, a, got)
	}
}

// P19.1: one whose prefix lies in the other's, equal ones, disjoint ones, of unlike kinds, and of length 0.
func TestMeetPrefixes(t *testing.T) {
	for _, c := range []struct {
		one, two string
		want     bool
	}{
		{"10.0.0.0/8", "10.1.0.0/16", true},
		{"10.0.0.0/8", "10.255.255.255/32", true},
		{"10.0.0.0/8", "10.0.0.0/9", true},
		{"10.0.0.0/8", "10.0.0.0/8", true},
		{"10.0.0.0/8", "11.0.0.0/8", false},
		{"10.0.0.0/8", "11.0.0.0/16", false},
		{"10.0.0.0/8", "9.255.255.255/32", false},
		{"10.0.0.0/9", "10.128.0.0/9", false},
		{"10.1.0.0/16", "10.2.0.0/16", false},
		{"0.0.0.0/0", "0.0.0.0/0", true},
		{"0.0.0.0/0", "255.255.255.255/32", true},
		{"0.0.0.0/0", "10.1.0.0/16", true},
		{"0.0.0.0/0", "::/0", false},
		{"0.0.0.0/0", "::/128", false},
		{"0.0.0.0/32", "::/0", false},
		{"0.0.0.0/32", "::/32", false},
		{"10.0.0.0/8", "a00::/8", false},
		{"10.0.0.0/8", "::a00:0/104", false},
		{"::/0", "::/0", true},
		{"::/0", "2001:db8::/32", true},
		{"2001:db8::/32", "2001:db8::1/128", true},
		{"2001:db8::/32", "2001:db9::1/128", false},
		{"2001:db8::1/128", "2001:db8::1/128", true},
		{"2001:db8::1/128", "2001:db8::2/128", false},
		{"2001:db8::/127", "2001:db8::1/128", true},
		{"2001:db8::/127", "2001:db8::2/127", false},
	} {
		checkMeet(t, key(t, c.one, 1, 2), key(t, c.two, 3, 4), c.want)
	}
}

// P19.1: all prefixes of up to four bits, each held against each: two meet if some of the sixteen beginnings is in both.
func TestMeetBeginnings(t *testing.T) {
	type begun struct {
		k  Key
		in uint16 // a bit for each of the beginnings
	}
	var all []begun
	for _, six := range []bool{false, true} {
		for length := range 5 {
			for first := range 1 << length {
				a := api.Addr{Six: six}
				a.B[0] = byte(first << (8 - length))
				in := uint16(0)
				for n := range 16 {
					if n>>(4-length) == first {
						in |= 1 << n
					}
				}
				all = append(all, begun{of(a, length, 1, 2), in})
			}
		}
	}
	for _, one := range all {
		for _, two := range all {
			checkMeet(t, one.k, two.k, one.k.Prefix.Six == two.k.Prefix.Six && one.in&two.in != 0)
		}
	}
}

// P19.1: of each length and each other one: two prefixes of one address meet; where one bit is turned they do if it is behind one's length.
func TestMeetEachLength(t *testing.T) {
	for _, a := range []api.Addr{addr.Four(0xA5, 0x5A, 0xA5, 0x5A), addr.Four(0, 0, 0, 0), addr.Six(0xA55A, 0xA55A, 0, 0xFFFF, 0xFFFF, 0, 0x1234, 0x5678)} {
		for one := range checks.Longest(a) + 1 {
			for two := range one + 1 {
				checkMeet(t, masked(a, one), masked(a, two), true)
				bits := []int{0, two / 2, two - 2, two - 1, two, two + 1, (one + two) / 2, one - 1, one}
				for _, bit := range bits {
					if bit >= 0 && bit < checks.Longest(a) {
						checkMeet(t, masked(checks.Turned(a, bit), one), masked(a, two), bit >= two)
						checkMeet(t, masked(a, one), masked(checks.Turned(a, bit), two), bit >= two)
					}
				}
			}
		}
	}
}

// P19.1: ports that are the same, or of which one is 0, or both; the local and the remote one each.
func TestMeetPorts(t *testing.T) {
	fits := func(a, b uint16) bool { return a == b || a == 0 || b == 0 }
	some := []uint16{0, 1, 80, 80 << 8, math.MaxUint16}
	for _, texts := range [][2]string{{"10.0.0.0/8", "10.0.0.0/8"}, {"10.0.0.0/8", "10.1.0.0/16"}, {"::/0", "::1/128"}, {"10.0.0.0/8", "11.0.0.0/8"}} {
		one, two := key(t, texts[0], 1, 2), key(t, texts[1], 1, 2)
		for _, one.LocalPort = range some {
			for _, one.RemotePort = range some {
				for _, two.LocalPort = range some {
					for _, two.RemotePort = range some {
						want := fits(one.LocalPort, two.LocalPort) && fits(one.RemotePort, two.RemotePort)
						checkMeet(t, one, two, want && texts[1] != "11.0.0.0/8")
					}
				}
			}
		}
	}
}

// P19.1: one meets itself, if it may be, and what differs from it in what counts for nothing.
func TestMeetItself(t *testing.T) {
	for _, a := range samples() {
		for length := range checks.Longest(a) + 1 {
			for _, local := range ports() {
				k := ported(local, ^local, masked(a, length))
				checkMeet(t, k, k, true)
			}
		}
	}
	k := ported(80, 1024, key(t, "10.0.0.0/8", 1, 2))
	turns := []func(k *Key){
		func(k *Key) { k.Alg = 2 },
		func(k *Key) { k.Master = []byte{0} },
		func(k *Key) { k.Master = make([]byte, 80) },
		func(k *Key) { k.Opts = true },
		func(k *Key) { k.N = 5 },
		func(k *Key) { k.N = math.MinInt },
	}
	for id := range 256 {
		turns = append(turns, func(k *Key) { k.SendID = uint8(id) }, func(k *Key) { k.RecvID = uint8(id) })
	}
	for _, turn := range turns {
		checkMeet(t, k, checks.With(k, turn), true)
		checkMeet(t, checks.With(k, turn), ported(0, 0, key(t, "0.0.0.0/0", 1, 2)), true)
		checkMeet(t, checks.With(k, turn), ported(81, 1024, k), false)
	}
}

// P19.1: what may not be meets nothing, not even itself, though pairs are governed by both.
func TestMeetImpossible(t *testing.T) {
	good := []Key{key(t, "0.0.0.0/0", 1, 2), key(t, "::/0", 1, 2), key(t, "10.1.0.0/16", 1, 2), key(t, "a01::/16", 1, 2), key(t, "10.0.0.0/8", 1, 2)}
	for _, bad := range impossible() {
		checkMeet(t, bad, bad, false)
		for _, k := range good {
			checkMeet(t, bad, k, false)
		}
	}
	for _, bad := range impossible()[:40] {
		for _, worse := range impossible() {
			checkMeet(t, bad, worse, false)
		}
	}
}

// P19.1: two meet just where some pair is governed by both: pairs of many addresses and ports are tried of all of some key tuples.
func TestMeetWhereGoverned(t *testing.T) {
	var keys []Key
	for _, text := range []string{"0.0.0.0/0", "10.0.0.0/8", "10.1.0.0/16", "10.1.2.0/24", "10.1.2.3/32", "10.2.0.0/16", "11.0.0.0/8", "::/0", "a01::/16", "a01:203::/32", "a01::1/128"} {
		for _, local := range []uint16{0, 80, 81} {
			for _, remote := range []uint16{0, 80, 81} {
				keys = append(keys, ported(local, remote, key(t, text, 1, 2)))
			}
		}
	}
	var pairs []api.Pair
	for _, text := range []string{"9.0.0.0", "10.0.0.0", "10.1.0.0", "10.1.2.0", "10.1.2.3", "10.1.2.4", "10.1.3.0", "10.2.0.0", "11.0.0.0", "::", "a01::", "a01::1", "a01:203::", "a01:203::1"} {
		for _, local := range []uint16{79, 80, 81} {
			for _, remote := range []uint16{79, 80, 81} {
				pairs = append(pairs, between(api.Addr{}, local, read(t, text), remote))
			}
		}
	}
	told := map[bool]int{}
	for _, one := range keys {
		for _, two := range keys {
			both := slices.ContainsFunc(pairs, func(p api.Pair) bool { return Governs(one, p) && Governs(two, p) })
			checkMeet(t, one, two, both)
			told[both]++
		}
	}
	if told[false] < 1000 || told[true] < 1000 {
		t.Error(told)
	}
}
