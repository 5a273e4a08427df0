package mkt

import (
	"fmt"
	"math"
	"math/rand"
	"slices"
	"testing"

	"downhaul/addr"
	"downhaul/api"
	"downhaul/checks"
)

// model is a ring by the chapter's words: all key tuples that it ever had, by their numbers, and which went.
type model struct {
	keys []Key
	gone map[int]bool
}

// each are the key tuples that are there.
func (m *model) each() []Key {
	var out []Key
	for _, k := range m.keys {
		if !m.gone[k.N] {
			out = append(out, k)
		}
	}
	return out
}

// add is what a ring answers to one more.
func (m *model) add(k Key) (int, api.Errno) {
	if !mayByWords(k) {
		return 0, api.ErrArg
	}
	there := m.each()
	for _, o := range there {
		if o.SendID != k.SendID && o.RecvID != k.RecvID {
			continue
		}
		if meetByWords(o, k) {
			return 0, api.ErrThere
		}
	}
	if len(there) >= 32 {
		return 0, api.ErrMany
	}
	k.N = len(m.keys) + 1
	m.keys = append(m.keys, k)
	return k.N, api.OK
}

// has tells whether one of a number is there.
func (m *model) has(n int) bool { return n >= 1 && n <= len(m.keys) && !m.gone[n] }

// drop is what a ring answers where one goes.
func (m *model) drop(n int) api.Errno {
	if !m.has(n) {
		return api.ErrNone
	}
	m.gone[n] = true
	return api.OK
}

// get is the one of a number.
func (m *model) get(n int) (Key, api.Errno) {
	if !m.has(n) {
		return Key{}, api.ErrNone
	}
	return m.keys[n-1], api.OK
}

// governing are those that govern a pair.
func (m *model) governing(p api.Pair) []Key {
	var out []Key
	for _, k := range m.each() {
		if governsByWords(k, p) {
			out = append(out, k)
		}
	}
	return out
}

// by is the one that governs a pair, and has a number.
func (m *model) by(p api.Pair, has func(k Key) bool) (Key, api.Errno) {
	for _, k := range m.governing(p) {
		if has(k) {
			return k, api.OK
		}
	}
	return Key{}, api.ErrKey
}

// text tells key tuples.
func text(keys ...Key) string {
	var out string
	for _, k := range keys {
		out += fmt.Sprintf("%d: %s %v/%d %d %d %d %d %d %x %t\n", k.N, addr.Text(k.Prefix), k.Prefix.B[4:], k.Length, k.LocalPort, k.RemotePort, k.SendID, k.RecvID, k.Alg, k.Master, k.Opts)
	}
	return out
}

// twin is a ring, with the model that it is held to.
type twin struct {
	*Ring
	model model
	tells map[string]int // how often something was answered
}

// newTwin is an empty twin.
func newTwin() *twin { return &twin{New(), model{gone: map[int]bool{}}, map[string]int{}} }

// hold holds that both answered the same, and that the ring has what the model has.
func (w *twin) hold(t *testing.T, what string, got, want []Key, e, f api.Errno) {
	t.Helper()
	if !slices.EqualFunc(got, want, same) || e != f {
		t.Fatalf("%s:\n%s%v, not\n%s%v", what, text(got...), e, text(want...), f)
	}
	if got, want := w.All(), w.model.each(); !slices.EqualFunc(got, want, same) {
		t.Fatalf("%s: then there are\n%snot\n%s", what, text(got...), text(want...))
	}
	w.tells[what+" "+e.Error()]++
}

// few answers one key tuple as a list, and none where there is an error; beside it nothing is told.
func few(t *testing.T, k Key, e api.Errno) []Key {
	t.Helper()
	if e == api.OK {
		return []Key{k}
	}
	fails(t, "beside an error", k, e, e)
	return nil
}

// anyNear is an address by chance, near to some others of its kind. Few of them may not be.
func anyNear(chance *rand.Rand) api.Addr {
	a := []api.Addr{addr.Four(10, 1, 2, 3), addr.Six(0xA01, 0x203)}[chance.Intn(2)]
	if bits := checks.Longest(a); chance.Intn(2) == 0 {
		if chance.Intn(30) == 0 {
			bits = 128
		}
		a = checks.Turned(a, chance.Intn(bits))
	}
	if chance.Intn(60) == 0 {
		a.Six = !a.Six
	}
	return a
}

// anyOwn is a port of a key tuple, or of a pair, by chance.
func anyOwn(chance *rand.Rand) uint16 {
	return []uint16{0, 0, 80, 80, 81, math.MaxUint16}[chance.Intn(6)]
}

// anyKey is a key tuple by chance, of numbers less than ids: most of them may be.
func anyKey(chance *rand.Rand, ids int) Key {
	a := anyNear(chance)
	length := []int{0, 8, 15, 16, 24, 32, chance.Intn(checks.Longest(a) + 1)}[chance.Intn(7)]
	if chance.Intn(20) > 0 {
		a = checks.Masked(a, length)
	}
	k := of(a, length, uint8(chance.Intn(ids)), uint8(chance.Intn(ids)))
	k = ported(anyOwn(chance), anyOwn(chance), k)
	k.N, k.Alg, k.Opts = chance.Intn(100)-50, 1+chance.Intn(2), chance.Intn(2) == 0
	k.Master = checks.Bytes(chance.Intn, []int{1, 16, 20, 80, 1 + chance.Intn(80)}[chance.Intn(5)])
	switch chance.Intn(100) {
	case 0:
		k.Alg = wrongAlgs()[chance.Intn(len(wrongAlgs()))]
	case 1:
		k.Master = make([]byte, 81*chance.Intn(3))
	case 2:
		k.Length = chance.Intn(150) - 10
	case 3:
		wrong := checks.WrongLengths(k.Prefix)
		k.Length = wrong[chance.Intn(len(wrong))]
	}
	return k
}

// anyPair is a pair by chance.
func anyPair(chance *rand.Rand) api.Pair {
	return between(anyNear(chance), anyOwn(chance), anyNear(chance), anyOwn(chance))
}

// anyNumber is a number by chance: most of them were given, many of these are gone.
func (w *twin) anyNumber(chance *rand.Rand) int {
	there, last := w.model.each(), len(w.model.keys)
	if chance.Intn(10) == 0 {
		wrong := wrongNumbers(last)
		return wrong[chance.Intn(len(wrong))]
	}
	if len(there) > 0 && chance.Intn(2) == 0 {
		return there[chance.Intn(len(there))].N
	}
	return chance.Intn(last+1) + 1
}

// add adds one to both.
func (w *twin) add(t *testing.T, k Key) {
	t.Helper()
	n, e := w.Add(k)
	m, f := w.model.add(k)
	if n != m {
		t.Fatalf("Add(%s) = %d, not %d", text(k), n, m)
	}
	w.hold(t, "Add", nil, nil, e, f)
}

// step is one call by chance, of both.
func (w *twin) step(t *testing.T, chance *rand.Rand, ids int) {
	t.Helper()
	p, send, recv := anyPair(chance), uint8(chance.Intn(ids)), uint8(chance.Intn(ids))
	if list := w.model.governing(p); len(list) > 0 && chance.Intn(2) == 0 {
		k := list[chance.Intn(len(list))]
		send, recv = k.SendID, k.RecvID
	}
	switch chance.Intn(9) {
	case 0, 1, 2:
		w.add(t, anyKey(chance, ids))
	case 3, 4:
		n := w.anyNumber(chance)
		w.hold(t, "Drop", nil, nil, w.Drop(n), w.model.drop(n))
	case 5:
		n := w.anyNumber(chance)
		got, e := w.Get(n)
		want, f := w.model.get(n)
		w.hold(t, "Get", few(t, got, e), few(t, want, f), e, f)
	case 6:
		w.hold(t, "For", w.For(p), w.model.governing(p), api.OK, api.OK)
	case 7:
		got, e := w.Sends(p, send)
		want, f := w.model.by(p, func(k Key) bool { return k.SendID == send })
		w.hold(t, "Sends", few(t, got, e), few(t, want, f), e, f)
	case 8:
		got, e := w.Gets(p, recv)
		want, f := w.model.by(p, func(k Key) bool { return k.RecvID == recv })
		w.hold(t, "Gets", few(t, got, e), few(t, want, f), e, f)
	}
}

// often holds that each of some answers came often.
func often(t *testing.T, tells map[string]int, least int, answers ...string) {
	t.Helper()
	for _, k := range answers {
		if tells[k] < least {
			t.Errorf("%s: only %d", k, tells[k])
		}
	}
}

// P19.1, P19.2, P19.5: whatever is called, by chance: each answer is that of the chapter's words, and what answers an error turns nothing.
func TestByChance(t *testing.T) {
	tells := map[string]int{}
	for seed := range int64(80) {
		chance := rand.New(rand.NewSource(1900 + seed))
		w, ids := newTwin(), []int{2, 4, 8, 32, 256}[chance.Intn(5)]
		for range 500 {
			w.step(t, chance, ids)
		}
		for k, n := range w.tells {
			tells[k] += n
		}
	}
	often(t, tells, 100, "Add error 0", "Add error 1", "Add error 7", "Drop error 0", "Drop error 6", "Get error 0", "Get error 6", "For error 0", "Sends error 0", "Sends error 12", "Gets error 0", "Gets error 12")
}

// P19.1: the same of a ring that is full, or nearly.
func TestFullByChance(t *testing.T) {
	tells := map[string]int{}
	for seed := range int64(10) {
		chance := rand.New(rand.NewSource(2000 + seed))
		w := newTwin()
		for len(w.model.each()) < 32 {
			w.add(t, anyKey(chance, 40))
		}
		for range 500 {
			w.add(t, anyKey(chance, 40))
			w.step(t, chance, 40)
		}
		for k, n := range w.tells {
			tells[k] += n
		}
	}
	often(t, tells, 100, "Add error 0", "Add error 1", "Add error 5", "Add error 7", "Drop error 0", "Drop error 6", "Get error 0", "For error 0", "Sends error 0", "Sends error 12", "Gets error 0", "Gets error 12")
}

// P19.1: May, Governs and Meet of key tuples and pairs by chance: as the chapter's words have it.
func TestAskedByChance(t *testing.T) {
	chance := rand.New(rand.NewSource(192))
	tells := map[string]int{}
	for range 100000 {
		one, two, p := anyKey(chance, 256), anyKey(chance, 256), anyPair(chance)
		may, governs, meet := mayByWords(one), governsByWords(one, p), meetByWords(one, two)
		checkMay(t, one, may)
		checkGoverns(t, one, p, governs)
		checkMeet(t, one, two, meet)
		tells[fmt.Sprint("May ", may)]++
		tells[fmt.Sprint("Governs ", governs)]++
		tells[fmt.Sprint("Meet ", meet)]++
	}
	often(t, tells, 4000, "May true", "May false", "Governs true", "Governs false", "Meet true", "Meet false")
}

// P19.3: of a pair no two key tuples have one SendID, or one RecvID, whatever was added and dropped.
func TestNoNumberTwice(t *testing.T) {
	most := 0
	for seed := range int64(60) {
		chance := rand.New(rand.NewSource(2100 + seed))
		r := New()
		for range 200 {
			r.Add(anyKey(chance, 12))
			if chance.Intn(4) == 0 {
				r.Drop(1 + chance.Intn(30))
			}
			p := anyPair(chance)
			list := r.For(p)
			most = max(most, len(list))
			sends, gets := map[uint8]bool{}, map[uint8]bool{}
			for _, k := range list {
				if sends[k.SendID] || gets[k.RecvID] || !Governs(k, p) {
					t.Fatalf("For(%v):\n%s", p, text(list...))
				}
				sends[k.SendID], gets[k.RecvID] = true, true
			}
		}
	}
	if most < 6 {
		t.Error(most)
	}
}

// P19.4: each number comes once, above all that came ahead, and what has gone is not found by it.
func TestNoNumberAgain(t *testing.T) {
	chance := rand.New(rand.NewSource(193))
	r, last, gone := New(), 0, map[int]bool{}
	for range 5000 {
		if n, e := r.Add(anyKey(chance, 256)); e == api.OK {
			if n != last+1 {
				t.Fatalf("behind %d comes %d", last, n)
			}
			last = n
		}
		for range chance.Intn(3) {
			if n := last - chance.Intn(40); r.Drop(n) == api.OK {
				if gone[n] {
					t.Fatalf("%d went twice", n)
				}
				gone[n] = true
			}
		}
		for _, k := range r.All() {
			if gone[k.N] {
				t.Fatalf("%d is told, and has gone", k.N)
			}
		}
		if n := last - chance.Intn(40); gone[n] {
			got, e := r.Get(n)
			fails(t, "gone", got, e, api.ErrNone)
		}
	}
	if last < 1000 || len(gone) < 500 {
		t.Error(last, len(gone))
	}
}

// everything is all that a ring tells, of some pairs.
func everything(r *Ring, pairs []api.Pair) string {
	out := text(r.All()...)
	for _, p := range pairs {
		out += text(r.For(p)...)
		for id := range 8 {
			k, e := r.Sends(p, uint8(id))
			out += text(k) + e.Error()
			k, e = r.Gets(p, uint8(id))
			out += text(k) + e.Error()
		}
	}
	for n := -1; n < 110; n++ {
		k, e := r.Get(n)
		out += text(k) + e.Error()
	}
	return out
}

// pairs are some pairs by chance.
func pairs(chance *rand.Rand, n int) []api.Pair {
	var out []api.Pair
	for range n {
		out = append(out, anyPair(chance))
	}
	return out
}

// P19.5, R7: refused calls turn nothing, neither what is told, nor the number that comes next, nor what is taken.
func TestRefusedTurnsNothing(t *testing.T) {
	refused := map[api.Errno]int{}
	for seed := range int64(40) {
		chance := rand.New(rand.NewSource(2200 + seed))
		r, twin, at := New(), New(), pairs(chance, 8)
		ids := []int{8, 256}[seed%2]
		for range 100 {
			k := anyKey(chance, ids)
			n, e := r.Add(k)
			if e == api.OK {
				// The twin is never asked what is refused.
				adds(t, "the twin", twin, k, n)
			}
			refused[e]++
			n = chance.Intn(300) - 20
			if e = r.Drop(n); e == api.OK {
				told(t, "the twin", twin.Drop(n), api.OK)
			}
			refused[e]++
		}
		if got, want := everything(r, at), everything(twin, at); got != want {
			t.Fatalf("%s\n, not\n%s", got, want)
		}
	}
	for _, e := range []api.Errno{api.OK, api.ErrArg, api.ErrMany, api.ErrNone, api.ErrThere} {
		if refused[e] < 100 {
			t.Errorf("%v: only %d", e, refused[e])
		}
	}
}
