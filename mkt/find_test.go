package mkt

import (
	"slices"
	"testing"

	"downhaul/addr"
	"downhaul/api"
	"downhaul/checks"
)

// asks holds what a ring tells of a pair: which key tuples govern it, and which has each SendID and RecvID.
func asks(t *testing.T, what string, r *Ring, p api.Pair, want ...Key) {
	t.Helper()
	alike(t, what, r.For(p), want...)
	sends, gets := map[uint8]Key{}, map[uint8]Key{}
	for _, k := range want {
		sends[k.SendID], gets[k.RecvID] = k, k
	}
	// Of a pair no two have one number, so that none stands here in another's stead.
	if len(sends) != len(want) || len(gets) != len(want) {
		t.Fatalf("%s: a number twice: %+v", what, want)
	}
	for id := range 256 {
		got, e := r.Sends(p, uint8(id))
		answers(t, what, got, e, sends, uint8(id))
		got, e = r.Gets(p, uint8(id))
		answers(t, what, got, e, gets, uint8(id))
	}
}

// answers holds that what has that number is answered, or that nothing is.
func answers(t *testing.T, what string, got Key, e api.Errno, of map[uint8]Key, id uint8) {
	t.Helper()
	if want, ok := of[id]; ok {
		gives(t, what, got, e, want)
		return
	}
	fails(t, what, got, e, api.ErrKey)
}

// P19.2: All and For of none, of one, and up to 32 key tuples.
func TestEachMany(t *testing.T) {
	for n := range 33 {
		keys := many(n)
		r := made(t, keys...)
		has(t, "all", r, counted(keys...)...)
		asks(t, "all govern", r, toward(addr.Four(10, 0, 0, 0)), counted(keys...)...)
		asks(t, "none governs", r, toward(addr.Four(11, 0, 0, 0)))
	}
}

// P19.2: of a pair that all govern, that some do, and that none does, rising by number.
func TestFor(t *testing.T) {
	keys := []Key{
		key(t, "10.0.0.0/8", 1, 2),
		key(t, "10.1.0.0/16", 3, 4),
		key(t, "0.0.0.0/0", 5, 6),
		ported(80, 0, key(t, "10.1.2.0/24", 7, 8)),
		ported(0, 1024, key(t, "10.1.2.3/32", 9, 10)),
		ported(80, 1024, key(t, "10.1.2.3/32", 11, 12)),
		ported(81, 1024, key(t, "10.1.2.3/32", 11, 12)),
		key(t, "11.0.0.0/8", 1, 2),
		key(t, "::/0", 1, 2),
		key(t, "2001:db8::/32", 3, 4),
	}
	r := made(t, keys...)
	local := addr.Four(10, 1, 2, 3)
	for _, c := range []struct {
		remote    string
		localPort uint16
		port      uint16
		want      []int
	}{
		{"10.1.2.3", 80, 1024, []int{1, 2, 3, 4, 5, 6}},
		{"10.1.2.3", 81, 1024, []int{1, 2, 3, 5, 7}},
		{"10.1.2.3", 1024, 80, []int{1, 2, 3}},
		{"10.1.2.3", 82, 1024, []int{1, 2, 3, 5}},
		{"10.1.2.3", 80, 1025, []int{1, 2, 3, 4}},
		{"10.1.2.3", 0, 0, []int{1, 2, 3}},
		{"10.1.2.4", 80, 1024, []int{1, 2, 3, 4}},
		{"10.1.3.3", 80, 1024, []int{1, 2, 3}},
		{"10.2.2.3", 80, 1024, []int{1, 3}},
		{"11.1.2.3", 80, 1024, []int{3, 8}},
		{"12.1.2.3", 80, 1024, []int{3}},
		{"0.0.0.0", 80, 1024, []int{3}},
		{"a01:203::", 80, 1024, []int{9}},
		{"2001:db8::1", 80, 1024, []int{9, 10}},
		{"::", 80, 1024, []int{9}},
	} {
		var want []Key
		for _, n := range c.want {
			want = append(want, numbered(n, keys[n-1]))
		}
		asks(t, c.remote, r, between(local, c.localPort, read(t, c.remote), c.port), want...)
	}
}

// P19.2: where none governs a pair nothing is told, though a ring is full of key tuples.
func TestForNone(t *testing.T) {
	keys := many(32)
	r := made(t, keys...)
	for _, a := range append(samples(), addr.Four(11, 0, 0, 0), addr.Four(9, 255, 255, 255), addr.Six(0xA00)) {
		if a.B[0] != 10 {
			asks(t, "none", r, toward(a))
		}
	}
	asks(t, "none", r, api.Pair{})
	asks(t, "of the other kind", r, toward(checks.OtherKind(addr.Four(10, 0, 0, 0))))
}

// P19.2: whatever goes between, and however many come anew, the rest is told rising by number.
func TestRising(t *testing.T) {
	keys := many(32)
	p := toward(addr.Four(10, 0, 0, 0))
	for step := 1; step < 12; step++ {
		r := made(t, keys...)
		want := counted(keys...)
		for n := step; n <= 32; n += step {
			told(t, "Drop", r.Drop(n), api.OK)
			want = slices.DeleteFunc(want, func(k Key) bool { return k.N == n })
		}
		asks(t, "the rest", r, p, want...)
		for n, next := step, 33; n <= 32; n, next = n+step, next+1 {
			adds(t, "anew", r, keys[n-1], next)
			want = append(want, numbered(next, keys[n-1]))
			has(t, "anew", r, want...)
		}
		asks(t, "all again", r, p, want...)
	}
}

// P19.2: by one SendID, or RecvID, each pair has the key tuple that governs it.
func TestSendsAndGets(t *testing.T) {
	keys := []Key{
		key(t, "10.0.0.0/8", 61, 84), key(t, "11.0.0.0/8", 61, 84), key(t, "2001::/16", 61, 84), ported(80, 0, key(t, "12.0.0.0/8", 61, 84)),
		ported(81, 0, key(t, "12.0.0.0/8", 61, 84)), ported(82, 1, key(t, "12.0.0.0/8", 84, 61)), ported(82, 2, key(t, "12.0.0.0/8", 84, 61)),
	}
	r := made(t, keys...)
	for i, p := range []api.Pair{
		toward(addr.Four(10, 9, 9, 9)), toward(addr.Four(11, 9, 9, 9)), toward(addr.Six(0x2001, 5)), between(api.Addr{}, 80, addr.Four(12, 9, 9, 9), 7),
		between(api.Addr{}, 81, addr.Four(12, 9, 9, 9), 7), between(api.Addr{}, 82, addr.Four(12, 9, 9, 9), 1), between(api.Addr{}, 82, addr.Four(12, 9, 9, 9), 2),
	} {
		asks(t, "its own", r, p, numbered(i+1, keys[i]))
	}
	asks(t, "none", r, between(api.Addr{}, 82, addr.Four(12, 9, 9, 9), 3))
	asks(t, "none", r, between(api.Addr{}, 83, addr.Four(12, 9, 9, 9), 1))
}

// P19.2: a number that only a key tuple has which does not govern the pair is none; neither is one's SendID among the RecvIDs.
func TestSendsOfOthers(t *testing.T) {
	one, two := ported(80, 0, key(t, "10.0.0.0/8", 1, 2)), ported(81, 0, key(t, "10.0.0.0/8", 3, 4))
	r := made(t, one, two)
	for _, c := range []struct {
		port       uint16
		send, recv uint8
		want       api.Errno
	}{
		{80, 1, 2, api.OK}, {80, 3, 4, api.ErrKey}, {80, 2, 1, api.ErrKey}, {80, 0, 0, api.ErrKey},
		{81, 3, 4, api.OK}, {81, 1, 2, api.ErrKey}, {81, 4, 3, api.ErrKey}, {82, 1, 2, api.ErrKey}, {82, 3, 4, api.ErrKey},
	} {
		p := between(addr.Four(10, 0, 0, 1), c.port, addr.Four(10, 0, 0, 2), 1024)
		sent, e := r.Sends(p, c.send)
		got, f := r.Gets(p, c.recv)
		if e != c.want || f != c.want || !same(sent, got) || (c.want == api.OK) != (sent.N > 0) {
			t.Errorf("%+v: %+v, %v and %+v, %v", c, sent, e, got, f)
		}
	}
}

// P19.2, P19.4: what was dropped is told no more, by any call.
func TestDroppedIsFoundNoMore(t *testing.T) {
	keys := many(32)
	p := toward(addr.Four(10, 0, 0, 0))
	r := made(t, keys...)
	want := counted(keys...)
	for _, n := range []int{32, 1, 17, 16, 2, 31, 18} {
		told(t, "Drop", r.Drop(n), api.OK)
		want = slices.DeleteFunc(want, func(k Key) bool { return k.N == n })
		has(t, "dropped", r, want...)
		asks(t, "dropped", r, p, want...)
	}
}
