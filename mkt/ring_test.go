package mkt

import (
	"math"
	"math/rand"
	"slices"
	"testing"

	"downhaul/addr"
	"downhaul/api"
	"downhaul/checks"
)

// told tells an answer of Drop.
func told(t *testing.T, what string, got, want api.Errno) {
	t.Helper()
	if got != want {
		t.Errorf("%s: %v, not %v", what, got, want)
	}
}

// adds holds that a key tuple is taken, and gets that number.
func adds(t *testing.T, what string, r *Ring, k Key, want int) {
	t.Helper()
	if n, e := r.Add(k); n != want || e != api.OK {
		t.Errorf("%s: Add(%+v) = %d, %v, not %d", what, k, n, e, want)
	}
}

// made is a ring of these key tuples, added in this order: their numbers are 1, 2 and so on.
func made(t *testing.T, keys ...Key) *Ring {
	t.Helper()
	r := New()
	if r == nil {
		t.Fatal("New() = nil")
	}
	for i, k := range keys {
		adds(t, "made", r, k, i+1)
	}
	return r
}

// counted are key tuples with the numbers that they get in a new ring.
func counted(keys ...Key) []Key {
	out := slices.Clone(keys)
	for i := range out {
		out[i].N = i + 1
	}
	return out
}

// alike holds that a list has just these key tuples, in this order.
func alike(t *testing.T, what string, got []Key, want ...Key) {
	t.Helper()
	if !slices.EqualFunc(got, want, same) {
		t.Errorf("%s: %+v, not %+v", what, got, want)
	}
}

// gives holds that one key tuple is answered.
func gives(t *testing.T, what string, got Key, e api.Errno, want Key) {
	t.Helper()
	if !same(got, want) || e != api.OK {
		t.Errorf("%s: %+v, %v, not %+v", what, got, e, want)
	}
}

// fails holds that an error is answered, and no key tuple.
func fails(t *testing.T, what string, got Key, e, want api.Errno) {
	t.Helper()
	if !same(got, Key{}) || e != want {
		t.Errorf("%s: %+v, %v, not %v", what, got, e, want)
	}
}

// has holds that a ring has just these key tuples, and none of other numbers near them.
func has(t *testing.T, what string, r *Ring, want ...Key) {
	t.Helper()
	alike(t, what, r.All(), want...)
	last := 0
	for _, k := range want {
		for n := last + 1; n < k.N; n++ {
			got, e := r.Get(n)
			fails(t, what, got, e, api.ErrNone)
		}
		got, e := r.Get(k.N)
		gives(t, what, got, e, k)
		last = k.N
	}
	for _, n := range []int{last + 1, last + 2, 0, -1, -last, math.MinInt, math.MaxInt, math.MaxInt32, 1<<32 + last} {
		got, e := r.Get(n)
		fails(t, what, got, e, api.ErrNone)
	}
}

// refuses holds that a ring does not take a key tuple, and is as it was.
func refuses(t *testing.T, what string, r *Ring, k Key, want api.Errno) {
	t.Helper()
	was := r.All()
	if n, e := r.Add(k); n != 0 || e != want {
		t.Errorf("%s: Add(%+v) = %d, %v, not %v", what, k, n, e, want)
	}
	alike(t, what, r.All(), was...)
}

// misses holds that a ring has none of a number to let go, and is as it was.
func misses(t *testing.T, what string, r *Ring, n int) {
	t.Helper()
	was := r.All()
	told(t, what, r.Drop(n), api.ErrNone)
	alike(t, what, r.All(), was...)
}

// wrongNumbers are numbers that no key tuple of a ring has, which has not given the number last + 1 yet.
func wrongNumbers(last int) []int {
	return []int{0, -1, -2, -last, last + 1, last + 2, last + 33, 1<<32 + 1, 1<<32 + last, math.MaxInt32, math.MaxInt32 + 1, math.MinInt, math.MinInt + 1, math.MaxInt - 1, math.MaxInt}
}

// many are n key tuples, no two of which have a number in common, but all of them meet.
func many(n int) []Key {
	var out []Key
	for i := range n {
		k := of(addr.Four(10, 0, 0, 0), 8+i%8, uint8(i), uint8(255-i))
		k.Alg, k.Master, k.Opts = 1+i%2, checks.Rising(1+i), i%3 == 0
		out = append(out, k)
	}
	return out
}

// P19.1: New's ring is empty.
func TestNew(t *testing.T) {
	r := made(t)
	has(t, "an empty ring", r)
	for _, n := range wrongNumbers(0) {
		misses(t, "an empty ring", r, n)
	}
	for _, a := range samples() {
		alike(t, "an empty ring", r.For(toward(a)))
		for id := range 256 {
			got, e := r.Sends(toward(a), uint8(id))
			fails(t, "an empty ring", got, e, api.ErrKey)
			got, e = r.Gets(toward(a), uint8(id))
			fails(t, "an empty ring", got, e, api.ErrKey)
		}
	}
}

// P19.1: what may be is there, with all its fields, of each length, each algorithm, and each size of a master key.
func TestAdd(t *testing.T) {
	for _, a := range samples() {
		for length := range checks.Longest(a) + 1 {
			k := ported(uint16(length), ^uint16(length), masked(a, length))
			k.SendID, k.RecvID, k.Opts = uint8(length), uint8(255-length), length%2 == 1
			has(t, "one", made(t, k), numbered(1, k))
		}
	}
	for _, alg := range []int{1, 2} {
		for size := 1; size <= 80; size++ {
			k := key(t, "10.0.0.0/8", 0, 255)
			k.Alg, k.Master = alg, checks.Rising(size)
			has(t, "one", made(t, k), numbered(1, k))
		}
	}
	keys := many(32)
	has(t, "many", made(t, keys...), counted(keys...)...)
}

// P19.1: what may not be is refused for that, of an empty ring, of one with key tuples, and of a full one; also if one of its numbers is there.
func TestAddImpossible(t *testing.T) {
	keys := many(32)
	for _, r := range []*Ring{made(t), made(t, key(t, "10.0.0.0/8", 61, 84), key(t, "::/0", 61, 84)), made(t, keys...)} {
		last := len(r.All())
		for _, k := range impossible() {
			refuses(t, "impossible", r, k, api.ErrArg)
			k.SendID, k.RecvID = 0, 255
			refuses(t, "impossible", r, k, api.ErrArg)
		}
		// They took no number.
		if last < 32 {
			adds(t, "behind them", r, key(t, "12.0.0.0/8", 1, 1), last+1)
		}
	}
}

// P19.1: of two that meet neither SendIDs nor RecvIDs are the same; one's SendID may be the other's RecvID.
func TestAddThere(t *testing.T) {
	for _, ids := range [][2]uint8{{61, 84}, {0, 1}, {1, 0}, {0, 0}, {255, 0}, {255, 255}, {128, 127}} {
		send, recv := ids[0], ids[1]
		for _, texts := range [][2]string{{"10.0.0.0/8", "10.0.0.0/8"}, {"10.0.0.0/8", "10.1.0.0/16"}, {"10.1.0.0/16", "10.0.0.0/8"}, {"::/0", "2001::/16"}, {"10.1.2.3/32", "0.0.0.0/0"}} {
			one := key(t, texts[0], send, recv)
			for _, turn := range []uint8{1, 128, 255} {
				r := made(t, one)
				refuses(t, "both", r, key(t, texts[1], send, recv), api.ErrThere)
				refuses(t, "SendID", r, key(t, texts[1], send, recv^turn), api.ErrThere)
				refuses(t, "RecvID", r, key(t, texts[1], send^turn, recv), api.ErrThere)
				two := key(t, texts[1], send^turn, recv^turn)
				adds(t, "neither", r, two, 2)
				has(t, "neither", r, counted(one, two)...)
				refuses(t, "the second one's", r, key(t, texts[1], send^turn, 77), api.ErrThere)
				refuses(t, "one of each", r, key(t, texts[1], send, recv^turn), api.ErrThere)
			}
			if other := key(t, texts[1], recv, send); send != recv {
				r := made(t, one)
				adds(t, "turned about", r, other, 2)
				has(t, "turned about", r, counted(one, other)...)
			}
		}
	}
}

// P19.1: whatever else two have that meet, their numbers are unlike: other algorithms, master keys, and options that are covered count for nothing.
func TestAddThereWhateverElse(t *testing.T) {
	k := ported(80, 1024, key(t, "10.0.0.0/8", 61, 84))
	r := made(t, k)
	for _, turn := range []func(k *Key){
		func(k *Key) {},
		func(k *Key) { k.Alg = 2 },
		func(k *Key) { k.Master = []byte{1} },
		func(k *Key) { k.Opts = true },
		func(k *Key) { k.N = 2 },
		func(k *Key) { k.N = 1 },
		func(k *Key) { k.LocalPort = 0 },
		func(k *Key) { k.RemotePort = 0 },
		func(k *Key) { k.LocalPort, k.RemotePort = 0, 0 },
		func(k *Key) { k.Length, k.Prefix = 0, api.Addr{} },
		func(k *Key) { k.Length = 32 },
		func(k *Key) { k.Length, k.Prefix = 32, addr.Four(10, 255, 255, 255) },
	} {
		refuses(t, "both", r, checks.With(k, turn), api.ErrThere)
		refuses(t, "SendID", r, checks.With(k, turn, func(k *Key) { k.RecvID = 85 }), api.ErrThere)
		refuses(t, "RecvID", r, checks.With(k, turn, func(k *Key) { k.SendID = 62 }), api.ErrThere)
	}
	has(t, "as it was", r, numbered(1, k))
}

// P19.1: what does not meet the one that has its numbers is taken.
func TestAddApart(t *testing.T) {
	k := ported(80, 1024, key(t, "10.0.0.0/8", 61, 84))
	for _, turn := range []func(k *Key){
		func(k *Key) { k.LocalPort = 81 },
		func(k *Key) { k.RemotePort = 1025 },
		func(k *Key) { k.LocalPort, k.RemotePort = 1024, 80 },
		func(k *Key) { k.LocalPort, k.RemotePort = 81, 0 },
		func(k *Key) { k.LocalPort, k.RemotePort = 0, 80 },
		func(k *Key) { k.Prefix = addr.Four(11, 0, 0, 0) },
		func(k *Key) { k.Prefix, k.Length = addr.Four(11, 0, 0, 0), 32 },
		func(k *Key) { k.Prefix, k.Length = api.Addr{}, 5 },
		func(k *Key) { k.Prefix, k.Length = api.Addr{Six: true}, 0 },
		func(k *Key) { k.Prefix = checks.OtherKind(k.Prefix) },
	} {
		other := checks.With(k, turn)
		r := made(t, k, other)
		has(t, "apart", r, counted(k, other)...)
		refuses(t, "one", r, k, api.ErrThere)
		refuses(t, "the other", r, other, api.ErrThere)
		told(t, "Drop", r.Drop(1), api.OK)
		refuses(t, "the other", r, other, api.ErrThere)
		adds(t, "one", r, k, 3)
	}
}

// P19.1: the 32nd is there, the 33rd is refused; of such one that may not be, and one that meets one of its numbers, for that; if one goes, another one may come.
func TestAddMany(t *testing.T) {
	keys := many(33)
	r := made(t, keys[:32]...)
	want := counted(keys[:32]...)
	has(t, "32", r, want...)
	for _, k := range []Key{keys[32], key(t, "11.0.0.0/8", 0, 255), key(t, "::/0", 0, 255), key(t, "0.0.0.0/0", 100, 101)} {
		refuses(t, "the 33rd", r, k, api.ErrMany)
	}
	for i, k := range keys[:32] {
		refuses(t, "the 33rd, which is there", r, k, api.ErrThere)
		refuses(t, "the 33rd, of its SendID", r, key(t, "0.0.0.0/0", uint8(i), 100), api.ErrThere)
		refuses(t, "the 33rd, of its RecvID", r, key(t, "0.0.0.0/0", 100, uint8(255-i)), api.ErrThere)
		refuses(t, "the 33rd, which may not be", r, key(t, "10.0.0.1/8", uint8(i), uint8(255-i)), api.ErrArg)
	}
	has(t, "32", r, want...)
	for i := range 32 {
		told(t, "Drop", r.Drop(i+1), api.OK)
		adds(t, "another one", r, keys[i], 33+i)
		want = append(want[1:], numbered(33+i, keys[i]))
		has(t, "32 again", r, want...)
		refuses(t, "the 33rd", r, keys[32], api.ErrMany)
	}
}

// P19.1: what is handed in with a number gets the next one all the same.
func TestAddNumbered(t *testing.T) {
	for _, n := range []int{math.MinInt, -1, 0, 1, 2, 3, 33, math.MaxInt32, math.MaxInt32 + 1, math.MaxInt} {
		keys := many(3)
		r := made(t, keys[0], numbered(n, keys[1]), numbered(n, keys[2]))
		has(t, "numbered", r, counted(keys...)...)
		if n < 1 || n > 3 {
			misses(t, "numbered", r, n)
		}
	}
}

// P19.1, P19.4: numbers rise from 1 on, and none comes again, not even the last one, however many went; what was refused takes none.
func TestNumbers(t *testing.T) {
	keys := many(32)
	r := made(t)
	for n := 1; n <= 1000; n++ {
		adds(t, "Add", r, keys[n%32], n)
		has(t, "one alone", r, numbered(n, keys[n%32]))
		refuses(t, "again", r, keys[n%32], api.ErrThere)
		refuses(t, "impossible", r, Key{}, api.ErrArg)
		told(t, "Drop", r.Drop(n), api.OK)
		misses(t, "again", r, n)
		has(t, "none", r)
	}
	for i, k := range keys {
		adds(t, "Add", r, k, 1001+i)
	}
	for range 100 {
		refuses(t, "the 33rd", r, key(t, "11.0.0.0/8", 1, 1), api.ErrMany)
	}
	told(t, "Drop", r.Drop(1032), api.OK)
	adds(t, "the 32nd", r, key(t, "11.0.0.0/8", 1, 1), 1033)
}

// P19.1: behind the number 2^31 - 1 none is taken any more, whatever goes; what may not be, or meets one of its numbers, is refused for that.
func TestLastNumber(t *testing.T) {
	keys := many(4)
	r := made(t, keys[0])
	r.last = math.MaxInt32 - 2
	adds(t, "the last but one", r, keys[1], math.MaxInt32-1)
	adds(t, "the last", r, keys[2], math.MaxInt32)
	want := []Key{numbered(1, keys[0]), numbered(math.MaxInt32-1, keys[1]), numbered(math.MaxInt32, keys[2])}
	alike(t, "the last", r.All(), want...)
	for i, k := range want {
		got, e := r.Get(k.N)
		gives(t, "the last", got, e, k)
		refuses(t, "another one", r, keys[3], api.ErrMany)
		refuses(t, "impossible", r, Key{}, api.ErrArg)
		refuses(t, "there", r, keys[2], api.ErrThere)
		if i < 2 {
			told(t, "Drop", r.Drop(k.N), api.OK)
			alike(t, "the rest", r.All(), want[i+1:]...)
		}
	}
	told(t, "Drop", r.Drop(math.MaxInt32), api.OK)
	refuses(t, "of an empty one", r, keys[3], api.ErrMany)
	refuses(t, "of an empty one", r, keys[2], api.ErrMany)
	alike(t, "an empty one", r.All())
}

// P19.1: just the one of that number goes, and once.
func TestDrop(t *testing.T) {
	keys := many(32)
	for i, k := range keys {
		r := made(t, keys...)
		want := counted(keys...)
		for _, n := range wrongNumbers(32) {
			misses(t, "a number of none", r, n)
		}
		told(t, "Drop", r.Drop(i+1), api.OK)
		want = slices.Delete(want, i, i+1)
		has(t, "the rest", r, want...)
		misses(t, "again", r, i+1)
		for _, n := range wrongNumbers(32) {
			misses(t, "a number of none", r, n)
		}
		adds(t, "anew", r, k, 33)
		has(t, "anew", r, append(want, numbered(33, k))...)
	}
}

// P19.1: all go, in any order, and the rest stays in its order.
func TestDropAll(t *testing.T) {
	chance := rand.New(rand.NewSource(191))
	keys := many(32)
	for range 20 {
		r, left := made(t, keys...), counted(keys...)
		for _, i := range chance.Perm(32) {
			told(t, "Drop", r.Drop(i+1), api.OK)
			left = slices.DeleteFunc(left, func(k Key) bool { return k.N == i+1 })
			has(t, "the rest", r, left...)
		}
	}
}

// P19.4: what was dropped may be added again, and meets nothing.
func TestDroppedMeetsNothing(t *testing.T) {
	wide, near := key(t, "10.0.0.0/8", 1, 2), key(t, "10.1.0.0/16", 1, 3)
	r := made(t, wide)
	for n := 2; n < 50; n += 2 {
		refuses(t, "near", r, near, api.ErrThere)
		told(t, "Drop", r.Drop(n-1), api.OK)
		adds(t, "near", r, near, n)
		refuses(t, "wide", r, wide, api.ErrThere)
		told(t, "Drop", r.Drop(n), api.OK)
		adds(t, "wide", r, wide, n+1)
		has(t, "wide", r, numbered(n+1, wide))
	}
}
