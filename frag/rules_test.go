package frag

import (
	"bytes"
	"math"
	"math/rand"
	"slices"
	"testing"

	"downhaul/api"
	"downhaul/checks"
)

// P15.4, R1, R5: a nil table, and ones that New did not give, a copy among them: ErrNil, nothing, 0, whatever they are asked.
func TestNoTables(t *testing.T) {
	given := table(t, 2)
	added(t, given, 500, first(false, 1))
	copied := *given
	for _, tab := range []*Table{nil, {}, new(Table), &copied} {
		for _, now := range []int64{math.MinInt64, -1, 0, 1, 31000, 1 << 40, math.MaxInt64} {
			for _, p := range []api.Packet{{}, {More: true}, {Proto: 6, Load: []byte{1}}, first(false, 1), last(false, 1), first(true, 1), sized(true, 9), checks.At(3, sized(false, 9))} {
				if got, ok, e := tab.Add(now, p); !checks.Nothing(got) || got.Load != nil || ok || e != api.ErrNil {
					t.Errorf("Add(%d, %s) = %s, %t, %v", now, short(p), short(got), ok, e)
				}
			}
			if got := tab.Over(now); len(got) != 0 || tab.Len() != 0 || tab.Now() != 0 {
				t.Errorf("Over(%d) = %v; %d packets, at %d", now, got, tab.Len(), tab.Now())
			}
		}
	}
	// What the copy was of is as it was.
	if given.Len() != 1 || given.Now() != 500 {
		t.Error(given.Len(), given.Now())
	}
	comes(t, "given", given, last(false, 1), checks.Numbered(1, made(false, 11)), 0)
	if left := copied.Len(); left != 0 {
		t.Error(left)
	}
}

// doing is a call of a table.
type doing struct {
	over bool
	now  int64
	p    api.Packet
}

// doings are n calls by chance.
func doings(chance *rand.Rand, n int) []doing {
	var out []doing
	now := int64(0)
	for range n {
		now = max(now, min(anyTime(chance, now), 1<<39))
		out = append(out, doing{chance.Intn(10) == 0, now, anyPiece(chance, 4)})
	}
	return out
}

// told is what a table answers to a call, with how many packets it has then, and the time.
func (s doing) told(tab *Table) [5]any {
	if s.over {
		var all string
		for _, p := range tab.Over(s.now) {
			all += short(p) + string(p.Load)
		}
		return [5]any{all, tab.Len(), tab.Now()}
	}
	p, ok, e := tab.Add(s.now, s.p)
	return [5]any{short(p) + string(p.Load), ok, e, tab.Len(), tab.Now()}
}

// R3: the same calls do the same, to one table after the other, and to two in turn.
func TestSameCalls(t *testing.T) {
	for seed := range int64(50) {
		list := doings(rand.New(rand.NewSource(3000+seed)), 300)
		one, two, three := table(t, 3), table(t, 3), table(t, 3)
		var told [][5]any
		for _, s := range list {
			told = append(told, s.told(one))
		}
		for i, s := range list {
			if a, b := s.told(two), s.told(three); a != told[i] || b != told[i] {
				t.Fatalf("%d: %v, %v, not %v", i, a, b, told[i])
			}
		}
	}
}

// R3: Cut asked again, in another order, answers the same.
func TestCutAgain(t *testing.T) {
	chance := rand.New(rand.NewSource(166))
	type question struct {
		six bool
		n   int
		mtu int
		id  uint32
	}
	ask := func() question {
		return question{chance.Intn(2) == 0, chance.Intn(200), chance.Intn(200), chance.Uint32()}
	}
	answer := func(q question) string {
		list, e := Cut(sized(q.six, q.n), q.mtu, q.id)
		all := e.Error()
		for _, p := range list {
			all += short(p) + string(p.Load)
		}
		return all
	}
	checks.Again(2000, ask, answer, func(q question, first, then string) {
		t.Fatalf("%v: first %q, then %q", q, first, then)
	})
}

// R6: a load that is nil, and one that is empty, are the same.
func TestNoLoad(t *testing.T) {
	for _, six := range both() {
		p := sized(six, 0)
		p.Load = nil
		q := checks.With(p, func(p *api.Packet) { p.Load = make([]byte, 0, 9) })
		for _, mtu := range []int{0, 28, 56, 1500} {
			one, e := Cut(p, mtu, 1)
			two, f := Cut(q, mtu, 1)
			if !allAlike(one, two) || e != f {
				t.Errorf("Cut over %d: %v, %v, and %v, %v", mtu, one, e, two, f)
			}
		}
		tab := table(t, 1)
		comes(t, "nil", tab, p, p, 0)
		comes(t, "empty", tab, q, p, 0)
		for _, load := range [][]byte{nil, {}, make([]byte, 0, 9)} {
			fails(t, "a piece of no load", tab, checks.With(piece(six, 8, 0, true), func(p *api.Packet) { p.Load = load }), api.ErrForm, 0)
		}
	}
}

// roomy is a packet whose load has others' bytes behind it; and these all.
func roomy(p api.Packet) (api.Packet, []byte) {
	all := slices.Concat(p.Load, checks.Rising(40))
	p.Load = all[:len(p.Load)]
	return p, all
}

// R4: what is cut stays as it was, also behind its end, and none of the pieces is kept, or shares anything with it, or with another piece.
func TestCutIsTheCallers(t *testing.T) {
	for _, six := range both() {
		for _, n := range []int{0, 1, 8, 16, 17, 100, 1000} {
			for _, mtu := range []int{56, 64, 100, 1500} {
				p, all := roomy(sized(six, n))
				was := slices.Clone(all)
				list := pieces(t, p, mtu, 4)
				want, _ := cutByWords(sized(six, n), mtu, 4)
				for i := range list {
					checks.Spoil(list[i].Load)
					if !allAlike(list[i+1:], want[i+1:]) || !bytes.Equal(all, was) {
						t.Fatalf("%d bytes over %d: the piece %d is not the caller's", n, mtu, i)
					}
					list[i].Load = nil
				}
				list = pieces(t, p, mtu, 4)
				clear(all)
				if !allAlike(list, want) {
					t.Fatalf("%d bytes over %d: the load is kept", n, mtu)
				}
				list[0] = api.Packet{}
				p.Load = was[:n]
				if !allAlike(pieces(t, p, mtu, 4), want) {
					t.Fatalf("%d bytes over %d: the list is kept", n, mtu)
				}
			}
		}
	}
}

// R4: loads that are turned once they were added turn nothing that is there; they stay as they were, also behind their ends.
func TestLoadsAreNotKept(t *testing.T) {
	for _, six := range both() {
		for _, order := range orders(3) {
			list := []api.Packet{piece(six, 0, 16, true), piece(six, 16, 8, true), piece(six, 24, 5, false)}
			tab := table(t, 1)
			for i, k := range order {
				p, all := roomy(list[k])
				was := slices.Clone(all)
				got, ok, e := tab.Add(0, p)
				if !bytes.Equal(all, was) {
					t.Fatal("the load was written into")
				}
				checks.Spoil(all)
				if ok != (i == 2) || e != api.OK || ok && !checks.Alike(got, made(six, 29)) {
					t.Errorf("%v: %s, %t, %v", order, short(got), ok, e)
				}
				// One that is there already: neither does what it has count.
				if i < 2 {
					waits(t, "again", tab, p, 1)
					checks.Spoil(all)
				}
			}
		}
		tab := table(t, 1)
		p, all := roomy(piece(six, 0, 16, true))
		added(t, tab, 0, p)
		checks.Spoil(all)
		if got := tab.Over(30001); !allAlike(got, []api.Packet{piece(six, 0, 16, true)}) {
			t.Error(got)
		}
	}
}

// R4: what is answered is the caller's, who may write into it, and behind it.
func TestAnswersAreTheCallers(t *testing.T) {
	for _, six := range both() {
		tab := table(t, 4)
		// A whole packet.
		p, all := roomy(piece(six, 0, 30, false))
		was := slices.Clone(all)
		got, _, _ := tab.Add(0, p)
		checks.Spoil(got.Load)
		if !bytes.Equal(all, was) {
			t.Error("what was handed in is written into by what is answered")
		}
		got, _, _ = tab.Add(0, p)
		checks.Spoil(all)
		if !bytes.Equal(got.Load, was[:30]) {
			t.Error("what was handed in is answered")
		}
		// One that came together, of which the last piece that was handed in is a part.
		for _, order := range orders(3) {
			list := []api.Packet{piece(six, 0, 8, true), piece(six, 8, 8, true), piece(six, 16, 5, false)}
			var loads [][]byte
			for i, k := range order {
				p, all := roomy(list[k])
				loads = append(loads, all)
				if got, _, _ = tab.Add(0, p); i == 2 && !checks.Alike(got, made(six, 21)) {
					t.Errorf("%v: %s", order, short(got))
				}
			}
			checks.Spoil(got.Load)
			for i, k := range order {
				if !bytes.Equal(loads[i], slices.Concat(list[k].Load, checks.Rising(40))) {
					t.Errorf("%v: what was handed in is written into by what is answered", order)
				}
			}
		}
		// Pieces that waited too long.
		added(t, tab, 0, first(six, 1))
		added(t, tab, 0, checks.Numbered(2, piece(six, 0, 16, true)))
		added(t, tab, 1, first(six, 3))
		gone := tab.Over(30001)
		checks.Spoil(gone[0].Load)
		if len(gone) != 2 || !checks.Alike(gone[1], checks.Numbered(2, piece(six, 0, 16, true))) {
			t.Error(len(gone))
		}
		checks.Spoil(gone[1].Load)
		gone[0] = api.Packet{}
		if got := tab.Over(30002); !allAlike(got, []api.Packet{first(six, 3)}) {
			t.Error(len(got))
		}
	}
}
