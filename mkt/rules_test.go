package mkt

import (
	"bytes"
	"math"
	"math/rand"
	"slices"
	"testing"

	"downhaul/addr"
	"downhaul/api"
	"downhaul/checks"
)

// knowsNothing holds that a ring that New did not give answers ErrNil, and nothing, whatever it is asked.
func knowsNothing(t *testing.T, what string, r *Ring, keys []Key, at []api.Pair) {
	t.Helper()
	for _, k := range keys {
		if n, e := r.Add(k); n != 0 || e != api.ErrNil {
			t.Errorf("%s: Add(%+v) = %d, %v", what, k, n, e)
		}
	}
	for _, n := range append(wrongNumbers(1), 1) {
		told(t, what, r.Drop(n), api.ErrNil)
		got, e := r.Get(n)
		fails(t, what, got, e, api.ErrNil)
	}
	alike(t, what, r.All())
	for _, p := range at {
		alike(t, what, r.For(p))
		for id := range 256 {
			got, e := r.Sends(p, uint8(id))
			fails(t, what, got, e, api.ErrNil)
			got, e = r.Gets(p, uint8(id))
			fails(t, what, got, e, api.ErrNil)
		}
	}
}

// P19.2, R1, R5: a nil ring, and ones that New did not give, a copy among them.
func TestNoRings(t *testing.T) {
	wide, near := key(t, "10.0.0.0/8", 1, 2), key(t, "10.1.0.0/16", 3, 4)
	given := made(t, wide)
	copied := *given
	keys := append(impossible(), wide, near, key(t, "::/0", 0, 0))
	at := []api.Pair{{}, toward(addr.Four(10, 1, 2, 3)), toward(addr.Six(1)), toward(checks.Unlikely(10, 0, 0, 0)[0])}
	for _, r := range []*Ring{nil, {}, new(Ring), &copied} {
		knowsNothing(t, "no ring", r, keys, at)
	}
	// What the copy was of is as it was, and gives no number that the copy has.
	has(t, "given", given, numbered(1, wide))
	adds(t, "given", given, near, 2)
	knowsNothing(t, "the copy", &copied, keys, at)
	told(t, "given", given.Drop(1), api.OK)
	has(t, "given", given, numbered(2, near))
}

// P19.1, R5: two rings know nothing of each other: neither what is there, nor which number comes next.
func TestTwoRings(t *testing.T) {
	keys := many(32)
	p := toward(addr.Four(10, 0, 0, 0))
	one, two := made(t, keys[:2]...), made(t)
	has(t, "two", two)
	misses(t, "two", two, 1)
	asks(t, "two", two, p)
	adds(t, "two", two, keys[1], 1)
	asks(t, "two", two, p, numbered(1, keys[1]))
	asks(t, "one", one, p, counted(keys[:2]...)...)
	told(t, "one", one.Drop(1), api.OK)
	has(t, "one", one, numbered(2, keys[1]))
	has(t, "two", two, numbered(1, keys[1]))
	for i, k := range keys[2:] {
		adds(t, "one", one, k, 3+i)
	}
	adds(t, "one", one, keys[0], 33)
	refuses(t, "one", one, key(t, "11.0.0.0/8", 1, 1), api.ErrMany)
	adds(t, "two", two, keys[0], 2)
	told(t, "two", two.Drop(1), api.OK)
	has(t, "two", two, numbered(2, keys[0]))
	if got := one.All(); len(got) != 32 {
		t.Error(len(got))
	}
}

// asking is one call of a ring.
type asking struct {
	kind int
	k    Key
	n    int
	p    api.Pair
	id   uint8
}

// askingBy is a call by chance.
func askingBy(chance *rand.Rand) asking {
	return asking{chance.Intn(9), anyKey(chance, 16), chance.Intn(60) - 5, anyPair(chance), uint8(chance.Intn(16))}
}

// told is what a ring answers to a call.
func (s asking) told(r *Ring) string {
	var k Key
	var e api.Errno
	switch s.kind {
	case 0, 1, 2:
		k.N, e = r.Add(s.k)
	case 3:
		e = r.Drop(s.n)
	case 4:
		k, e = r.Get(s.n)
	case 5:
		return text(r.All()...)
	case 6:
		return text(r.For(s.p)...)
	case 7:
		k, e = r.Sends(s.p, s.id)
	case 8:
		k, e = r.Gets(s.p, s.id)
	}
	return text(k) + e.Error()
}

// R3: the same calls do the same, to one ring after the other, and to two in turn.
func TestSameCalls(t *testing.T) {
	for seed := range int64(20) {
		chance := rand.New(rand.NewSource(2300 + seed))
		one, two, three := New(), New(), New()
		var list []asking
		var first []string
		for range 300 {
			s := askingBy(chance)
			list, first = append(list, s), append(first, s.told(one))
		}
		for i, s := range list {
			if a, b := s.told(two), s.told(three); a != first[i] || b != first[i] {
				t.Fatalf("%d: %s, %s, not %s", i, a, b, first[i])
			}
		}
	}
}

// R3: asked again, in another order, a ring answers the same: asking turns nothing.
func TestAskedAgain(t *testing.T) {
	chance := rand.New(rand.NewSource(194))
	r := New()
	for range 100 {
		r.Add(anyKey(chance, 16))
	}
	ask := func() asking {
		s := askingBy(chance)
		s.kind = 4 + s.kind%5
		return s
	}
	checks.Again(2000, ask, func(s asking) string { return s.told(r) }, func(s asking, first, then string) {
		t.Fatalf("%+v: first %s, then %s", s, first, then)
	})
	type two struct {
		one, other Key
		p          api.Pair
	}
	both := func() two { return two{anyKey(chance, 16), anyKey(chance, 16), anyPair(chance)} }
	tells := func(q two) [3]bool { return [3]bool{May(q.one), Governs(q.one, q.p), Meet(q.one, q.other)} }
	checks.Again(2000, both, tells, func(q two, first, then [3]bool) {
		t.Fatalf("%+v: first %v, then %v", q, first, then)
	})
}

// R4: what is handed in stays as it was, as does what stands around it, whatever is called.
func TestWhatIsHandedInStays(t *testing.T) {
	for _, size := range []int{0, 1, 2, 16, 79, 80, 81} {
		for _, alg := range []int{0, 1, 2} {
			master, all := checks.Guarded(checks.Rising(size))
			was := slices.Clone(all)
			k := key(t, "10.0.0.0/8", 1, 2)
			k.Alg, k.Master = alg, master
			kept := k
			r := New()
			n, _ := r.Add(k)
			r.Add(k)
			May(k)
			Meet(k, k)
			Governs(k, toward(k.Prefix))
			got, _ := r.Get(n)
			checks.Spoil(got.Master)
			r.Drop(n)
			r.Add(k)
			if !bytes.Equal(all, was) || !same(k, kept) || k.N != 0 {
				t.Errorf("of %d bytes: %x, not %x", size, all, was)
			}
		}
	}
}

// R4: a ring's master keys are its own: turning what was handed in, or what stands behind it, turns nothing that the ring has.
func TestMastersAreNotKept(t *testing.T) {
	for _, size := range []int{1, 2, 16, 79, 80} {
		master, all := checks.Guarded(checks.Rising(size))
		k := key(t, "10.0.0.0/8", 1, 2)
		k.Master = master
		want := numbered(1, key(t, "10.0.0.0/8", 1, 2))
		want.Master = checks.Rising(size)
		r := made(t, k)
		checks.Spoil(all)
		has(t, "spoilt", r, want)
		clear(all)
		asks(t, "cleared", r, toward(k.Prefix), want)
		k.SendID, k.Length, k.Prefix, k.LocalPort = 9, 0, api.Addr{}, 7
		has(t, "turned", r, want)
	}
}

// tellings are all the ways in which a ring tells what it has.
func tellings(r *Ring, p api.Pair, k Key) [][]Key {
	got, _ := r.Get(k.N)
	sent, _ := r.Sends(p, k.SendID)
	recv, _ := r.Gets(p, k.RecvID)
	return [][]Key{r.All(), r.For(p), {got}, {sent}, {recv}}
}

// spoil writes into a list of key tuples, and into their master keys, and behind all of these, as far as there is room.
func spoil(list []Key) {
	list = list[:cap(list)]
	for i := range list {
		checks.Spoil(list[i].Master)
		list[i] = Key{N: 77, Length: 5, Alg: 9}
	}
}

// R4: what is answered is the caller's: turning it turns nothing that a ring has, and no other answer.
func TestAnswersAreTheCallers(t *testing.T) {
	p := toward(addr.Four(10, 0, 0, 0))
	for _, n := range []int{1, 2, 3, 5, 31, 32} {
		keys := many(n)
		r := made(t, keys...)
		for i := range 5 {
			for _, k := range counted(keys...) {
				one, others := tellings(r, p, k), tellings(r, p, k)
				spoil(one[i])
				one[i] = others[i]
				for _, list := range [][][]Key{one, others} {
					alike(t, "all", list[0], counted(keys...)...)
					alike(t, "for", list[1], counted(keys...)...)
					for _, single := range list[2:] {
						alike(t, "single", single, k)
					}
				}
			}
			has(t, "spoilt", r, counted(keys...)...)
			asks(t, "spoilt", r, p, counted(keys...)...)
		}
		spoil(append(r.All(), Key{}))
		slices.Reverse(r.For(p))
		has(t, "appended", r, counted(keys...)...)
	}
}

// R4: no two key tuples share their master keys, though they were handed in with one; nor do those of one answer.
func TestMastersAreApart(t *testing.T) {
	p := toward(addr.Four(10, 0, 0, 0))
	master := checks.Rising(20)
	var keys []Key
	for _, k := range many(32) {
		k.Master = master
		keys = append(keys, k)
	}
	r := made(t, keys...)
	want := counted(keys...)
	for i := range want {
		for _, list := range [][]Key{r.All(), r.For(p)} {
			checks.Spoil(list[i].Master)
			list[i].Master = checks.Rising(20)
			alike(t, "one answer", list, want...)
		}
	}
	has(t, "as they were", r, want...)
	if !bytes.Equal(master, checks.Rising(20)) {
		t.Error("what was handed in is turned")
	}
}

// R4: an answer stays as it was while the ring is turned.
func TestAnswersStay(t *testing.T) {
	p := toward(addr.Four(10, 0, 0, 0))
	keys := many(32)
	r := made(t, keys...)
	var told [][]Key
	var was []string
	keep := func() {
		for _, k := range r.All() {
			for _, list := range tellings(r, p, k) {
				told, was = append(told, list), append(was, text(list...))
			}
		}
	}
	keep()
	for i := range 32 {
		r.Drop(i + 1)
		k := keys[i]
		k.Master = make([]byte, 80)
		adds(t, "anew", r, k, 33+i)
		if i%4 == 0 {
			keep()
		}
	}
	for n := 1; n < 70; n++ {
		r.Drop(n)
	}
	for i, k := range keys[:20] {
		adds(t, "anew", r, k, 65+i)
	}
	for i, list := range told {
		if got := text(list...); got != was[i] {
			t.Fatalf("the answer %d is turned: %s, not %s", i, got, was[i])
		}
	}
}

// R6: a ring without key tuples, however it came to that, tells none; a nil master key and an empty one are the same.
func TestNoKeys(t *testing.T) {
	r := made(t)
	for n := 1; n < 5; n++ {
		if all, of := r.All(), r.For(api.Pair{}); len(all) != 0 || len(of) != 0 {
			t.Error(all, of)
		}
		k := key(t, "0.0.0.0/0", 1, 2)
		for _, k.Master = range [][]byte{nil, {}, make([]byte, 0, 5)} {
			refuses(t, "no byte", r, k, api.ErrArg)
		}
		k.Master = []byte{0}
		adds(t, "a byte", r, k, n)
		told(t, "Drop", r.Drop(n), api.OK)
	}
}

// R1: every call ends, at all arguments.
func TestAllArguments(t *testing.T) {
	numbers := []int{math.MinInt, math.MinInt32, -1, 0, 1, 2, 8, 32, 33, 128, 129, math.MaxInt32, math.MaxInt}
	r := made(t, many(5)...)
	var keys []Key
	for _, b := range checks.Edges()[:9] {
		for _, six := range []bool{false, true} {
			for _, n := range numbers {
				k := of(api.Addr{Six: six, B: b}, n, uint8(n), uint8(n>>1))
				k.N, k.Alg, k.Opts = n, n, six
				keys = append(keys, k, checks.With(k, func(k *Key) { k.Alg = 2 }, func(k *Key) { k.Master = nil }))
			}
		}
	}
	for i, k := range keys {
		p := between(k.Prefix, uint16(i), keys[len(keys)-1-i].Prefix, uint16(i))
		if Governs(k, p) != governsByWords(k, p) || May(k) != mayByWords(k) {
			t.Errorf("%+v, %v", k, p)
		}
		if n, e := r.Add(k); (n > 0) != (e == api.OK) {
			t.Errorf("Add(%+v) = %d, %v", k, n, e)
		}
		for _, o := range keys {
			if Meet(k, o) != meetByWords(k, o) {
				t.Errorf("Meet(%+v, %+v)", k, o)
			}
		}
		for _, k := range r.For(p) {
			if !governsByWords(k, p) {
				t.Errorf("%+v", k)
			}
		}
	}
	for _, n := range numbers {
		k, e := r.Get(n)
		if (e == api.OK) != (k.N == n && n > 0) || (r.Drop(n) == api.OK) != (e == api.OK) {
			t.Errorf("Get(%d) = %+v, %v", n, k, e)
		}
	}
}
