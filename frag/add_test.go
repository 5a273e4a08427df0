package frag

import (
	"bytes"
	"math"
	"math/rand"
	"slices"
	"testing"

	"downhaul/api"
	"downhaul/checks"
)

// piece is a piece of n bytes at an Off, of one packet of its kind: its bytes are those that the packet has there.
func piece(six bool, off, n int, more bool) api.Packet {
	p := sized(six, 0)
	p.Whole, p.Id, p.Off, p.More = false, 0x1234, off, more
	for i := range n {
		p.Load = append(p.Load, byte((off+i)*7%251))
	}
	return p
}

// made is the packet of n bytes whose pieces those are, when they came together.
func made(six bool, n int) api.Packet {
	p := piece(six, 0, n, false)
	if six {
		p.Whole, p.Id = true, 0
	}
	return p
}

// table is a table of that room.
func table(t *testing.T, room int) *Table {
	t.Helper()
	made, e := New(room)
	if made == nil || e != api.OK {
		t.Fatalf("New(%d) = %v, %v", room, made, e)
	}
	return made
}

// answers holds that a table answers that of a piece, and has so many packets then.
func answers(t *testing.T, what string, tab *Table, p api.Packet, want api.Packet, whole bool, e api.Errno, left int) {
	t.Helper()
	got, ok, f := tab.Add(tab.Now(), p)
	if !checks.Alike(got, want) || ok != whole || f != e || tab.Len() != left {
		t.Errorf("%s: Add(%s) = %s, %t, %v, and %d packets; not %s, %t, %v, and %d", what, short(p), short(got), ok, f, tab.Len(), short(want), whole, e, left)
	}
}

// waits holds that a piece waits for others.
func waits(t *testing.T, what string, tab *Table, p api.Packet, left int) {
	t.Helper()
	answers(t, what, tab, p, api.Packet{}, false, api.OK, left)
}

// comes holds that with a piece a packet comes together.
func comes(t *testing.T, what string, tab *Table, p, want api.Packet, left int) {
	t.Helper()
	answers(t, what, tab, p, want, true, api.OK, left)
}

// fails holds that a piece lets its packet go, with an error.
func fails(t *testing.T, what string, tab *Table, p api.Packet, e api.Errno, left int) {
	t.Helper()
	answers(t, what, tab, p, api.Packet{}, false, e, left)
}

// P15.2: rooms that may be, and such that may not.
func TestNew(t *testing.T) {
	for room := -200; room <= 400; room++ {
		tab, e := New(room)
		if room >= 1 && room <= 64 {
			if tab == nil || e != api.OK || tab.Len() != 0 || tab.Now() != 0 || len(tab.Over(0)) != 0 {
				t.Errorf("New(%d) = %v, %v", room, tab, e)
			}
		} else if tab != nil || e != api.ErrArg {
			t.Errorf("New(%d) = %v, %v", room, tab, e)
		}
	}
	for _, room := range []int{math.MinInt, math.MinInt + 1, -1 << 32, -1<<32 + 1, 1 << 8, 1<<8 + 1, 1 << 16, 1<<32 + 1, 1<<32 + 64, math.MaxInt - 1, math.MaxInt} {
		if tab, e := New(room); tab != nil || e != api.ErrArg {
			t.Errorf("New(%d) = %v, %v", room, tab, e)
		}
	}
}

// P15.2: two tables have nothing in common.
func TestTwoTables(t *testing.T) {
	one, two := table(t, 2), table(t, 2)
	one.Over(500)
	waits(t, "one", one, piece(false, 0, 8, true), 1)
	waits(t, "two", two, piece(false, 8, 3, false), 1)
	if one.Now() != 500 || two.Now() != 0 {
		t.Error(one.Now(), two.Now())
	}
	comes(t, "one", one, piece(false, 8, 3, false), made(false, 11), 0)
	comes(t, "two", two, piece(false, 0, 8, true), made(false, 11), 0)
}

// P15.3: what is whole comes at once, and turns nothing, also if pieces of its name are there; of IPv6 it is Whole then, with the Id 0.
func TestWholeAtOnce(t *testing.T) {
	for _, six := range both() {
		for _, id := range []uint32{0, 1, 0x1234, 65535, 1 << 16, math.MaxUint32} {
			for _, n := range []int{0, 1, 8, 9, 100, 1480, 65515} {
				p := checks.Hopping(uint8(n), checks.Numbered(id, piece(six, 0, n, false)))
				want := p
				if six {
					want = checks.Wholly(checks.Numbered(0, p))
				} else if id > 65535 {
					continue
				}
				tab := table(t, 1)
				comes(t, "not Whole", tab, p, want, 0)
				waits(t, "a piece", tab, checks.Numbered(id, piece(six, 0, 8, true)), 1)
				comes(t, "not Whole, beside a piece", tab, p, want, 1)
				if p.Whole = true; six {
					p.Id = 0
				}
				comes(t, "Whole", tab, p, p, 1)
				comes(t, "the rest", tab, checks.Numbered(id, piece(six, 8, 2, false)), checks.With(made(six, 10), func(p *api.Packet) { p.Id = want.Id }), 0)
			}
		}
	}
}

// P15.3: what may not be, and pieces of no load: ErrForm; what is there stays, and comes together.
func TestNoPieces(t *testing.T) {
	list := impossible()
	for _, six := range both() {
		for _, off := range []int{8, 16, 65504} {
			list = append(list, piece(six, off, 0, false), piece(six, off, 0, true))
		}
		list = append(list, piece(six, 0, 0, true), checks.Numbered(9, piece(six, 0, 0, true)))
	}
	for _, six := range both() {
		tab := table(t, 1)
		for _, p := range list {
			fails(t, "an empty table", tab, p, api.ErrForm, 0)
		}
		waits(t, "the first", tab, piece(six, 0, 8, true), 1)
		for _, p := range list {
			fails(t, "a full table", tab, p, api.ErrForm, 1)
		}
		comes(t, "the last", tab, piece(six, 8, 1, false), made(six, 9), 0)
	}
}

// orders are all orders of n things.
func orders(n int) [][]int {
	if n == 0 {
		return [][]int{nil}
	}
	var out [][]int
	for _, o := range orders(n - 1) {
		for at := range n {
			out = append(out, slices.Insert(slices.Clone(o), at, n-1))
		}
	}
	return out
}

// P15.3, P15.5: pieces come together in each order, at the last one of them, and what was there is there no more.
func TestOrders(t *testing.T) {
	for _, six := range both() {
		list := []api.Packet{piece(six, 0, 16, true), piece(six, 16, 8, true), piece(six, 24, 40, true), piece(six, 64, 8, true), piece(six, 72, 5, false)}
		for _, order := range orders(len(list)) {
			tab := table(t, 1)
			for i, k := range order {
				if i == len(list)-1 {
					comes(t, "all", tab, list[k], made(six, 77), 0)
				} else {
					waits(t, "not all", tab, list[k], 1)
				}
			}
		}
	}
}

// P15.3, P15.5: a packet that came together may begin anew, as often as it likes, also by a piece that came once more.
func TestAnew(t *testing.T) {
	for _, six := range both() {
		tab := table(t, 3)
		for range 5 {
			waits(t, "first", tab, piece(six, 0, 8, true), 1)
			comes(t, "last", tab, piece(six, 8, 8, false), made(six, 16), 0)
			waits(t, "last", tab, piece(six, 8, 8, false), 1)
			comes(t, "first", tab, piece(six, 0, 8, true), made(six, 16), 0)
		}
		// What came ahead of it does not count.
		waits(t, "another last", tab, piece(six, 16, 1, false), 1)
		waits(t, "first", tab, piece(six, 0, 8, true), 1)
		comes(t, "second", tab, piece(six, 8, 8, true), made(six, 17), 0)
	}
}

// P15.5: pieces of many packets, as Cut cuts them, mixed, each some times: all come together, and nothing else.
func TestCutComesTogether(t *testing.T) {
	chance := rand.New(rand.NewSource(163))
	for range 300 {
		tab := table(t, 64)
		var all []api.Packet
		want := map[uint32]api.Packet{}
		for id := range uint32(1 + chance.Intn(10)) {
			six := chance.Intn(2) == 0
			p := sized(six, chance.Intn(2000))
			if p.Load = checks.Bytes(chance.Intn, len(p.Load)); !six {
				p.Id = id
			}
			// The Protos tell which one it is.
			p.Proto = uint8(100 + id)
			want[uint32(p.Proto)] = p
			all = append(all, pieces(t, p, 100+chance.Intn(600), 7)...)
		}
		chance.Shuffle(len(all), func(i, j int) { all[i], all[j] = all[j], all[i] })
		for i, p := range all {
			got, ok, e := tab.Add(0, p)
			if e != api.OK || ok && !checks.Alike(got, want[uint32(p.Proto)]) || !ok && !checks.Nothing(got) {
				t.Fatalf("Add(%s) = %s, %t, %v", short(p), short(got), ok, e)
			}
			if ok {
				delete(want, uint32(p.Proto))
				continue
			}
			// One of those that came, once more, unless its packet came together already.
			again := all[chance.Intn(i+1)]
			if _, waiting := want[uint32(again.Proto)]; waiting {
				waits(t, "again", tab, again, tab.Len())
			}
		}
		if len(want) != 0 || tab.Len() != 0 {
			t.Fatalf("%d did not come together, %d are there", len(want), tab.Len())
		}
	}
}

// P15.5: the greatest packets come together, of as many pieces as may be, and of two.
func TestGreatestComesTogether(t *testing.T) {
	chance := rand.New(rand.NewSource(164))
	for _, six := range both() {
		all, head := 65515, 20
		if six {
			all, head = 65527, 48
		}
		p := sized(six, all)
		p.Load = checks.Bytes(chance.Intn, all)
		for _, mtu := range []int{head + 1024, 1500, 9000, head + 65504} {
			list := pieces(t, p, mtu, 3)
			slices.Reverse(list)
			tab := table(t, 1)
			for _, q := range list[1:] {
				waits(t, "not all", tab, q, 1)
			}
			comes(t, "all", tab, list[0], p, 0)
		}
	}
}

// named is a packet with another one's name.
func named(p, as api.Packet) api.Packet {
	return checks.Carrying(as.Proto, checks.Numbered(as.Id, checks.Between(as.Src, as.Dst, p)))
}

// others are packets whose names differ from a piece's in one part alone.
func others(p api.Packet) []api.Packet {
	out := []api.Packet{checks.Between(p.Dst, p.Src, p)}
	bits, ids := 32, 16
	if p.Src.Six {
		bits, ids = 128, 32
	}
	for bit := range bits {
		src, dst := p.Src, p.Dst
		src.B, dst.B = checks.Flipped(src.B, bit), checks.Flipped(dst.B, bit)
		out = append(out, checks.Between(src, p.Dst, p), checks.Between(p.Src, dst, p))
	}
	for bit := range ids {
		out = append(out, checks.Numbered(p.Id^1<<bit, p))
	}
	for bit := range 8 {
		out = append(out, checks.Carrying(p.Proto^1<<bit, p))
	}
	return slices.DeleteFunc(out, func(p api.Packet) bool { return !mayBe(p) })
}

// P15.3, P15.5, P15.6: pieces whose names differ in one part alone, source, destination, Id or Proto, neither come together, nor clash.
func TestNames(t *testing.T) {
	for _, six := range both() {
		first, last := piece(six, 0, 8, true), piece(six, 8, 5, false)
		list := others(first)
		if len(list) < 80 {
			t.Error(len(list))
		}
		for _, other := range list {
			whole := made(six, 13)
			if whole = checks.Between(other.Src, other.Dst, checks.Carrying(other.Proto, whole)); !six {
				whole.Id = other.Id
			}
			tab := table(t, 5)
			waits(t, "first", tab, first, 1)
			waits(t, "another's last", tab, named(last, other), 2)
			comes(t, "last", tab, last, made(six, 13), 1)
			comes(t, "another's first", tab, other, whole, 0)
			// What overlaps of another one is let in, and lets none go.
			waits(t, "first", tab, first, 1)
			waits(t, "another's, of more bytes", tab, named(piece(six, 0, 16, true), other), 2)
			fails(t, "another's, that overlaps", tab, other, api.ErrForm, 1)
			comes(t, "last", tab, last, made(six, 13), 0)
		}
	}
}

// P15.3, P15.6: an address of four bytes, and one of sixteen with the same bytes, are none.
func TestKindsAreTold(t *testing.T) {
	tab := table(t, 2)
	four := piece(false, 0, 8, true)
	turned := func(p api.Packet) api.Packet {
		return checks.With(p, func(p *api.Packet) { p.Src.Six, p.Dst.Six = true, true })
	}
	waits(t, "of IPv4", tab, four, 1)
	waits(t, "of IPv6", tab, turned(piece(false, 8, 2, false)), 2)
	comes(t, "of IPv4", tab, piece(false, 8, 2, false), made(false, 10), 1)
	comes(t, "of IPv6", tab, turned(four), checks.Wholly(checks.Numbered(0, turned(made(false, 10)))), 0)
}

// P15.3: what is no part of a name does not keep pieces apart: the Hops are those of the piece at Off 0.
func TestHops(t *testing.T) {
	for _, six := range both() {
		for _, order := range orders(3) {
			list := []api.Packet{checks.Hopping(3, piece(six, 0, 8, true)), checks.Hopping(2, piece(six, 8, 8, true)), checks.Hopping(255, piece(six, 16, 1, false))}
			tab := table(t, 1)
			waits(t, "one", tab, list[order[0]], 1)
			waits(t, "two", tab, list[order[1]], 1)
			waits(t, "two again, with other Hops", tab, checks.Hopping(9, list[order[1]]), 1)
			comes(t, "three", tab, list[order[2]], checks.Hopping(3, made(six, 17)), 0)
		}
	}
}

// P15.3: a piece with as many bytes at the same Off, and the same More, as one that is there does nothing, whatever its bytes are: those that were there first stay.
func TestAgain(t *testing.T) {
	for _, six := range both() {
		list := []api.Packet{piece(six, 0, 8, true), piece(six, 8, 24, true), piece(six, 32, 5, false), piece(six, 40, 8, true)}
		for _, order := range orders(3) {
			tab := table(t, 1)
			for i, k := range order {
				if i == 2 {
					comes(t, "all", tab, list[k], made(six, 37), 0)
					continue
				}
				waits(t, "not all", tab, list[k], 1)
				for _, again := range order[:i+1] {
					p := list[again]
					p.Load = bytes.Repeat([]byte{0xAB}, len(p.Load))
					waits(t, "again, with other bytes", tab, p, 1)
					waits(t, "again", tab, list[again], 1)
				}
			}
		}
	}
}

// row is a case of two pieces: what is there, what comes, and what is told of it.
type row struct {
	what   string
	there  []api.Packet
	p      api.Packet
	want   api.Errno
	closes bool // whether the packet comes together
}

// rows are cases of pieces that stand side by side, and of such that don't.
func rows(six bool) []row {
	at := func(off, n int) api.Packet { return piece(six, off, n, true) }
	last := func(off, n int) api.Packet { return piece(six, off, n, false) }
	list := func(p ...api.Packet) []api.Packet { return p }
	return []row{
		{"fewer bytes at the same Off", list(at(8, 16)), at(8, 8), api.ErrForm, false},
		{"more bytes at the same Off", list(at(8, 16)), at(8, 24), api.ErrForm, false},
		{"another More at the same Off", list(at(8, 16)), last(8, 16), api.ErrForm, false},
		{"More now at the same Off", list(last(8, 16)), at(8, 16), api.ErrForm, false},
		{"a last one of fewer bytes", list(last(8, 16)), last(8, 15), api.ErrForm, false},
		{"a last one of more bytes", list(last(8, 16)), last(8, 17), api.ErrForm, false},
		{"one byte of overlap behind", list(at(8, 8)), last(0, 9), api.OK, true}, // whole: at once
		{"one byte of overlap ahead", list(last(8, 9)), at(16, 8), api.ErrForm, false},
		{"one byte of overlap, last", list(at(24, 8)), last(16, 9), api.ErrForm, false},
		{"within another one", list(at(8, 24)), at(16, 8), api.ErrForm, false},
		{"about another one", list(at(16, 8)), at(8, 24), api.ErrForm, false},
		{"the same beginning as another's", list(at(8, 8)), last(8, 3), api.ErrForm, false},
		{"the same end as another's", list(at(8, 24)), at(24, 8), api.ErrForm, false},
		{"over two", list(at(8, 8), at(24, 8)), at(8, 24), api.ErrForm, false},
		{"just meets, ahead", list(at(16, 8)), at(8, 8), api.OK, false},
		{"just meets, behind", list(at(16, 8)), at(24, 8), api.OK, false},
		{"just meets, at both ends", list(at(0, 8), at(16, 8)), at(8, 8), api.OK, false},
		{"just meets, the last one", list(at(8, 8)), last(16, 1), api.OK, false},
		{"just meets, all", list(at(0, 8), last(16, 7)), at(8, 8), api.OK, true},
		{"ends just where the last one begins", list(last(24, 1)), at(16, 8), api.OK, false},
		{"ends just at the packet's end", list(last(16, 8)), at(16, 8), api.ErrForm, false},
		{"ends just at the packet's end, and begins ahead", list(last(16, 8)), at(8, 16), api.ErrForm, false},
		{"ends one byte behind the packet's end", list(last(8, 8)), last(16, 1), api.ErrForm, false},
		{"begins at the packet's end", list(last(8, 8)), at(16, 8), api.ErrForm, false},
		{"begins behind the packet's end", list(last(8, 7)), at(16, 8), api.ErrForm, false},
		{"far behind the packet's end", list(at(0, 8), last(16, 7)), at(800, 8), api.ErrForm, false},
		{"a second last piece, ahead", list(last(16, 8)), last(8, 8), api.ErrForm, false},
		{"a second last piece, behind", list(last(16, 8)), last(24, 8), api.ErrForm, false},
		{"a last one that ends where another one begins", list(at(16, 8)), last(8, 8), api.ErrForm, false},
		{"a last one that ends ahead of another one", list(at(32, 8)), last(8, 3), api.ErrForm, false},
		{"a last one that ends ahead of one of some", list(at(0, 8), at(32, 8), at(16, 8)), last(24, 1), api.ErrForm, false},
		{"a last one behind all others", list(at(32, 8), at(16, 8)), last(48, 1), api.OK, false},
		{"a last one behind all others, and nothing is missing", list(at(8, 8), at(0, 8)), last(16, 1), api.OK, true},
		{"a last one first", nil, last(8, 1), api.OK, false},
	}
}

// P15.3: pieces that overlap, also by one byte, that just meet, and that end behind the end: what does not fit lets the packet go, with all that is there; it may begin anew then.
func TestClashes(t *testing.T) {
	for _, six := range both() {
		for _, r := range rows(six) {
			tab := table(t, 1)
			for _, p := range r.there {
				waits(t, r.what, tab, p, 1)
			}
			got, ok, e := tab.Add(0, r.p)
			left := 1
			if e != api.OK || ok && r.p.Off > 0 {
				left = 0
			}
			if e != r.want || ok != r.closes || ok != (len(got.Load) > 0) || tab.Len() != left {
				t.Errorf("%s: %s, %t, %v, %d packets", r.what, short(got), ok, e, tab.Len())
			}
			if e == api.OK {
				continue
			}
			// Neither what was there is left, nor what came.
			waits(t, r.what, tab, piece(six, 0, 8, true), 1)
			comes(t, r.what, tab, piece(six, 8, 3, false), made(six, 11), 0)
		}
	}
}

// P15.3: what lets its packet go lets no other one go.
func TestOthersStay(t *testing.T) {
	for _, six := range both() {
		tab := table(t, 3)
		at := func(id uint32, p api.Packet) api.Packet { return checks.Numbered(id, p) }
		for id := range uint32(3) {
			waits(t, "first", tab, at(id, piece(six, 0, 8, true)), int(id)+1)
		}
		fails(t, "the middle one", tab, at(1, piece(six, 0, 16, true)), api.ErrForm, 2)
		for _, id := range []uint32{0, 2} {
			want := made(six, 9)
			if !six {
				want.Id = id
			}
			comes(t, "another one", tab, at(id, piece(six, 8, 1, false)), want, 1-int(id)/2)
		}
		waits(t, "the middle one", tab, at(1, piece(six, 8, 1, false)), 1)
	}
}

// P15.3: the 64th piece is taken, and may be the one that was missing; the 65th lets the packet go, also if it is that.
func TestMany(t *testing.T) {
	for _, six := range both() {
		for _, order := range [][]int{sixtyFour(), reversed(sixtyFour()), rand.New(rand.NewSource(165)).Perm(64)} {
			tab := table(t, 1)
			for i, k := range order {
				if p := piece(six, 8*k, 8, k < 63); i < 63 {
					waits(t, "not all", tab, p, 1)
				} else {
					comes(t, "the 64th", tab, p, made(six, 512), 0)
				}
			}
			// Of 65 the last one but one is missing when 64 are there.
			for i, k := range order {
				waits(t, "of 65", tab, piece(six, 8*k+8*(k/32), 8, true), 1)
				waits(t, "of 65, again", tab, piece(six, 8*order[i/2]+8*(order[i/2]/32), 8, true), 1)
			}
			fails(t, "the 65th, which is the last one", tab, piece(six, 520, 3, false), api.ErrMany, 0)
			waits(t, "anew", tab, piece(six, 0, 8, true), 1)
			comes(t, "anew", tab, piece(six, 8, 3, false), made(six, 11), 0)
		}
	}
}

// sixtyFour are the numbers from 0 to 63.
func sixtyFour() []int {
	var out []int
	for k := range 64 {
		out = append(out, k)
	}
	return out
}

// reversed are numbers, the last one first.
func reversed(list []int) []int {
	out := slices.Clone(list)
	slices.Reverse(out)
	return out
}

// filled is a table with 64 pieces of a packet, all from Off 8 to 520, the last one of them as told.
func filled(t *testing.T, six, more bool) *Table {
	t.Helper()
	tab := table(t, 1)
	for k := range 64 {
		waits(t, "one of 64", tab, piece(six, 8*k+8, 8, k < 63 || more), 1)
	}
	return tab
}

// P15.3: of a packet of 64 pieces: one that is there again does nothing; one that does not fit is ErrForm; any other is ErrMany, also the one that is missing.
func TestSixtyFifth(t *testing.T) {
	for _, six := range both() {
		for _, more := range both() {
			tab := filled(t, six, more)
			waits(t, "again", tab, piece(six, 8, 8, true), 1)
			waits(t, "again", tab, piece(six, 512, 8, more), 1)
			fails(t, "what is missing", tab, piece(six, 0, 8, true), api.ErrMany, 0)
			fails(t, "what overlaps", filled(t, six, more), piece(six, 0, 16, true), api.ErrForm, 0)
			fails(t, "a last one ahead of others", filled(t, six, more), piece(six, 512, 7, false), api.ErrForm, 0)
			fails(t, "a piece of no load", filled(t, six, more), piece(six, 0, 0, true), api.ErrForm, 1)
			want := api.ErrForm
			if more {
				want = api.ErrMany
			}
			fails(t, "behind all", filled(t, six, more), piece(six, 520, 8, true), want, 0)
			fails(t, "behind all, a last one", filled(t, six, more), piece(six, 520, 1, false), want, 0)
			comes(t, "whole", filled(t, six, more), piece(six, 0, 9, false), made(six, 9), 1)
		}
	}
}
