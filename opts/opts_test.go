package opts

import (
	"bytes"
	"fmt"
	"math"
	"math/rand"
	"reflect"
	"slices"
	"testing"

	"downhaul/api"
	"downhaul/checks"
)

// sets are all sets of options, with none to four Sacks: some have more than 40 bytes.
func sets() []api.Opts {
	var out []api.Opts
	for bits := range 1 << len(checks.Kinds()) {
		for n := range 5 {
			o := checks.With(api.Opts{}, checks.Runs(n))
			for i, part := range checks.Kinds() {
				if bits>>i&1 == 1 {
					part(&o)
				}
			}
			out = append(out, o)
		}
	}
	return out
}

// ends are options whose fields are at their ends, each alone and beside others.
func ends() []api.Opts {
	var turns []func(o *api.Opts)
	for _, n := range []uint16{0, 1, 255, 256, 536, 1<<15 - 1, 1 << 15, math.MaxUint16} {
		turns = append(turns, func(o *api.Opts) { o.HasMSS, o.MSS = true, n })
	}
	for n := range uint8(15) {
		turns = append(turns, func(o *api.Opts) { o.HasScale, o.Scale = true, n })
	}
	greatest := []uint32{0, 1, 1 << 31, math.MaxUint32}
	for _, n := range greatest {
		for _, m := range greatest {
			turns = append(turns, func(o *api.Opts) { o.HasTime, o.Val, o.Echo = true, n, m })
		}
	}
	for _, n := range []uint8{0, 1, 127, 128, 255} {
		for _, m := range []uint8{0, 1, 127, 128, 255} {
			for _, sum := range [][12]byte{{}, checks.MAC(), [12]byte(bytes.Repeat([]byte{255}, 12)), {11: 1}, {1}, {29, 16, 0, 0, 1, 5, 10}} {
				turns = append(turns, func(o *api.Opts) { o.HasAO, o.KeyID, o.NextID, o.MAC = true, n, m, sum })
			}
		}
	}
	var out []api.Opts
	for _, turn := range turns {
		out = append(out, checks.With(api.Opts{}, turn), checks.With(checks.Full(), turn), checks.With(api.Opts{}, checks.Runs(1), turn))
	}
	for _, n := range greatest {
		for _, m := range greatest {
			out = append(out, api.Opts{Sacks: []api.Block{{Left: n, Right: m}}}, api.Opts{SackOK: true, Sacks: []api.Block{{Left: 7, Right: 9}, {Left: n, Right: m}}})
			// All of them alike.
			for many := 2; many <= 4; many++ {
				out = append(out, api.Opts{Sacks: slices.Repeat([]api.Block{{Left: n, Right: m}}, many)})
			}
		}
	}
	return out
}

// edges are options that may be: all sets that fit, and the ends.
func edges() []api.Opts {
	out := ends()
	for _, o := range sets() {
		if len(checks.OptionBytes(o)) <= 40 {
			out = append(out, o)
		}
	}
	return append(out, api.Opts{Sacks: []api.Block{}})
}

// wrongs are options that may not be, most of them for one reason.
func wrongs() []api.Opts {
	var out []api.Opts
	for _, stray := range checks.Strays() {
		out = append(out, checks.With(api.Opts{}, stray), checks.With(checks.Full(), stray), checks.With(api.Opts{}, checks.Runs(2), stray))
	}
	for n := 15; n < 256; n++ {
		steep := func(o *api.Opts) { o.HasScale, o.Scale = true, uint8(n) }
		out = append(out, checks.With(api.Opts{}, steep), checks.With(checks.Full(), steep), api.Opts{Scale: uint8(n)})
	}
	for _, n := range []int{5, 6, 7, 31, 32, 33, 64, 100, 8192, 1 << 16} {
		out = append(out, checks.With(api.Opts{}, checks.Runs(n)), checks.With(checks.Full(), checks.Runs(n)))
	}
	for _, o := range sets() {
		if len(checks.OptionBytes(o)) > 40 {
			out = append(out, o)
		}
	}
	return out
}

// may tells by the chapter's words whether options may be.
func may(o api.Opts) bool {
	if !o.HasMSS && o.MSS != 0 || !o.HasScale && o.Scale != 0 || !o.HasTime && (o.Val != 0 || o.Echo != 0) {
		return false
	}
	if !o.HasAO && (o.KeyID != 0 || o.NextID != 0 || !bytes.Equal(o.MAC[:], make([]byte, 12))) {
		return false
	}
	return o.Scale < 15 && len(o.Sacks) < 5 && len(checks.OptionBytes(o)) < 41
}

// alike tells whether options are the same: no Sacks are the same as none.
func alike(a, b api.Opts) bool {
	same := slices.Equal(a.Sacks, b.Sacks)
	a.Sacks, b.Sacks = nil, nil
	return same && reflect.DeepEqual(a, b)
}

// short are options as a text.
func short(o api.Opts) string {
	many := len(o.Sacks)
	o.Sacks = o.Sacks[:min(many, 5)]
	return fmt.Sprintf("%d Sacks, %+v", many, o)
}

// byChance are options by chance: many of them may not be, as they have too many bytes, or Sacks.
func byChance(chance *rand.Rand) api.Opts {
	var o api.Opts
	if chance.Intn(2) == 0 {
		o.HasMSS, o.MSS = true, uint16(chance.Intn(1<<16))
	}
	if chance.Intn(2) == 0 {
		o.HasScale, o.Scale = true, uint8(chance.Intn(15))
	}
	o.SackOK = chance.Intn(2) == 0
	if chance.Intn(2) == 0 {
		o.HasTime, o.Val, o.Echo = true, chance.Uint32(), chance.Uint32()
	}
	for range []int{0, 0, 0, 1, 1, 2, 3, 4, 5, 9}[chance.Intn(10)] {
		o.Sacks = append(o.Sacks, api.Block{Left: chance.Uint32(), Right: chance.Uint32()})
	}
	if chance.Intn(2) == 0 {
		o.HasAO, o.KeyID, o.NextID = true, uint8(chance.Intn(256)), uint8(chance.Intn(256))
		o.MAC = [12]byte(checks.Bytes(chance.Intn, 12))
	}
	if chance.Intn(10) == 0 {
		all := checks.Strays()
		all[chance.Intn(len(all))](&o)
	}
	if chance.Intn(20) == 0 {
		o.Scale = uint8(chance.Intn(256))
	}
	return o
}

// tried are options that may be and such that may not: the edges, wrong ones, and n by chance.
func tried(chance *rand.Rand, n int) []api.Opts {
	list := slices.Concat(edges(), wrongs())
	for range n {
		list = append(list, byChance(chance))
	}
	return list
}

// laid are the bytes of options that must be laid.
func laid(t *testing.T, o api.Opts) []byte {
	t.Helper()
	b, e := Lay(o)
	if e != api.OK {
		t.Fatalf("Lay(%s): %v", short(o), e)
	}
	return b
}

// P12.1: known bytes, the chapter's example first.
func TestKnownBytes(t *testing.T) {
	for _, c := range []struct {
		o    api.Opts
		want string
	}{
		{api.Opts{HasMSS: true, MSS: 1460}, "020405b4"},
		{api.Opts{}, ""},
		{api.Opts{Sacks: []api.Block{}}, ""},
		{api.Opts{HasMSS: true}, "02040000"},
		{api.Opts{HasScale: true, Scale: 8}, "030308 00"},
		{api.Opts{HasScale: true}, "030300 00"},
		{api.Opts{SackOK: true}, "0402 0000"},
		{api.Opts{HasScale: true, Scale: 14, SackOK: true}, "03030e 0402 000000"},
		{api.Opts{HasTime: true, Val: 0x155AB7}, "080a00155ab700000000 0000"},
		{api.Opts{HasTime: true, Echo: 0xFFFFFFFF}, "080a00000000ffffffff 0000"},
		{api.Opts{Sacks: []api.Block{{Left: 1, Right: 0x80000000}}}, "050a0000000180000000 0000"},
		{api.Opts{Sacks: []api.Block{{Left: 0xFFFFFFFF}, {Right: 0xFFFFFFFF}}}, "0512ffffffff0000000000000000ffffffff 0000"},
		{api.Opts{Sacks: make([]api.Block, 3)}, "051a" + "000000000000000000000000000000000000000000000000" + "0000"},
		{api.Opts{Sacks: make([]api.Block, 4)}, "0522" + "0000000000000000000000000000000000000000000000000000000000000000" + "0000"},
		{api.Opts{HasAO: true}, "1d100000 000000000000000000000000"},
		{api.Opts{HasAO: true, KeyID: 1, NextID: 255, MAC: [12]byte{1, 2, 3, 4, 5, 6, 7, 8, 9, 10, 11, 12}}, "1d1001ff 0102030405060708090a0b0c"},
		{checks.With(api.Opts{}, checks.Kinds()...), "020405b4 030307 0402 080a01020304ffeeddcc 1d103d54a001b203c405d607e809fa0b 00"},
		{checks.With(api.Opts{SackOK: true, Sacks: []api.Block{{Left: 1, Right: 2}, {Left: 3, Right: 4}, {Left: 5, Right: 6}, {Left: 7, Right: 8}}}, checks.Kinds()[0]), "020405b4 0402 05220000000100000002000000030000000400000005000000060000000700000008"},
		{checks.With(api.Opts{Sacks: []api.Block{{Left: 1, Right: 2}}}, checks.Kinds()[3:]...), "080a01020304ffeeddcc 050a0000000100000002 1d103d54a001b203c405d607e809fa0b"},
	} {
		want := checks.Unhex(c.want)
		if got := laid(t, c.o); !bytes.Equal(got, want) || Size(c.o) != len(want) || !May(c.o) {
			t.Errorf("%s is laid as %x, not %x; Size %d, May %t", short(c.o), got, want, Size(c.o), May(c.o))
		}
	}
}

// P12.1: all sets of options, their fields at their ends, and others by chance: whether they may be, their bytes, and how many they are; of what may not be no bytes are told.
func TestLay(t *testing.T) {
	many := map[bool]int{}
	for _, o := range tried(rand.New(rand.NewSource(124)), 50000) {
		b, e := Lay(o)
		want := checks.OptionBytes(o)
		if May(o) != may(o) {
			t.Fatalf("May(%s) = %t", short(o), May(o))
		}
		if Size(o) != len(want) {
			t.Fatalf("Size(%s) = %d, not %d", short(o), Size(o), len(want))
		}
		if may(o) && (e != api.OK || !bytes.Equal(b, want)) {
			t.Fatalf("Lay(%s) = %x, %v, not %x", short(o), b, e, want)
		}
		if !may(o) && (e != api.ErrArg || len(b) != 0) {
			t.Fatalf("Lay(%s) = %x, %v", short(o), b, e)
		}
		many[may(o)]++
	}
	if many[true] < 10000 || many[false] < 10000 {
		t.Error(many)
	}
}

// P12.1: what may be, and what may not.
func TestMay(t *testing.T) {
	for _, o := range edges() {
		if !May(o) {
			t.Errorf("%s may not be", short(o))
		}
	}
	for _, o := range wrongs() {
		if b, e := Lay(o); May(o) || len(b) != 0 || e != api.ErrArg {
			t.Errorf("%s: %t, %x, %v", short(o), May(o), b, e)
		}
	}
}

// P12.1: as many bytes 0 as make it a multiple of four: none to three; just 40 bytes, and the least that are more.
func TestFilledUp(t *testing.T) {
	p := checks.Kinds()
	for _, c := range []struct {
		o    api.Opts
		size int
		fill int
		may  bool
	}{
		{checks.With(api.Opts{}), 0, 0, true},
		{checks.With(api.Opts{}, p[0]), 4, 0, true},
		{checks.With(api.Opts{}, p[1]), 4, 1, true},
		{checks.With(api.Opts{}, p[2]), 4, 2, true},
		{checks.With(api.Opts{}, p[1], p[2]), 8, 3, true},
		{checks.With(api.Opts{}, p[4]), 16, 0, true},
		{checks.With(api.Opts{}, p...), 36, 1, true},
		{checks.With(api.Opts{}, p[0], p[2], checks.Runs(4)), 40, 0, true},
		{checks.With(api.Opts{}, p[1], checks.Runs(4)), 40, 3, true},
		{checks.With(api.Opts{}, p[1], p[2], checks.Runs(4)), 40, 1, true},
		{checks.With(api.Opts{}, p[4], p[0], p[2], checks.Runs(2)), 40, 0, true},
		{checks.With(api.Opts{}, p[4], p[1], p[2], checks.Runs(2)), 40, 1, true},
		{checks.With(api.Opts{}, p[4], p[3], p[0], checks.Runs(1)), 40, 0, true},
		{checks.With(api.Opts{}, p[3], checks.Runs(3)), 36, 0, true},
		{checks.With(api.Opts{}, p[3], p[0], checks.Runs(3)), 40, 0, true},
		{checks.With(api.Opts{}, p[0], p[1], checks.Runs(4)), 44, 3, false},       // 41 bytes
		{checks.With(api.Opts{}, p[3], p[1], p[2], checks.Runs(3)), 44, 3, false}, // 41 bytes
		{checks.With(api.Opts{}, p[4], checks.Runs(3)), 44, 2, false},             // 42 bytes
		{checks.With(api.Opts{}, checks.Runs(5)), 44, 2, false},
		{checks.With(api.Opts{}, p[3], checks.Runs(4)), 44, 0, false},
		{checks.With(api.Opts{}, p[4], p[3], checks.Runs(2)), 44, 0, false},
		{checks.With(api.Opts{}, append(p, checks.Runs(4))...), 72, 3, false},
	} {
		if got := Size(c.o); got != c.size || May(c.o) != c.may {
			t.Errorf("%s: %d bytes, not %d; May %t", short(c.o), got, c.size, May(c.o))
			continue
		}
		b, e := Lay(c.o)
		if (e == api.OK) != c.may || len(b) != 0 && len(b) != c.size {
			t.Errorf("%s is laid as %x, %v", short(c.o), b, e)
			continue
		}
		if c.may && !bytes.Equal(b[c.size-c.fill:], make([]byte, c.fill)) {
			t.Errorf("%s is laid as %x, without %d bytes 0 at its end", short(c.o), b, c.fill)
		}
	}
}

// P12.1: Size of what may not be, too: what they do not have does not count, and any number of Sacks does.
func TestSizeOfAny(t *testing.T) {
	for _, c := range []struct {
		o    api.Opts
		want int
	}{
		{checks.With(api.Opts{}, checks.Runs(5)), 44},
		{checks.With(api.Opts{}, checks.Runs(100)), 804},
		{checks.With(api.Opts{}, checks.Runs(31)), 252},
		{checks.With(api.Opts{}, checks.Runs(32)), 260},
		{checks.With(checks.Full(), checks.Runs(5)), 80},
		{checks.With(checks.Full(), checks.Runs(100)), 840},
		{checks.With(api.Opts{}, checks.Runs(1<<20)), 8<<20 + 4},
		{api.Opts{MSS: 9, Scale: 99, Val: 9, Echo: 9, KeyID: 9, NextID: 9, MAC: checks.MAC()}, 0},
		{api.Opts{MSS: 9, Scale: 99, Val: 9, Echo: 9, KeyID: 9, NextID: 9, MAC: checks.MAC(), SackOK: true}, 4},
		{api.Opts{HasScale: true, Scale: 255}, 4},
	} {
		if got := Size(c.o); got != c.want || May(c.o) {
			t.Errorf("Size(%s) = %d, not %d", short(c.o), got, c.want)
		}
	}
	for n := range 300 {
		if got := Size(checks.With(api.Opts{}, checks.Kinds()[2], checks.Runs(n))); got != 4+8*n && n > 0 || n == 0 && got != 4 {
			t.Errorf("%d Sacks: %d bytes", n, got)
		}
	}
}

// P12.1, R6: the same are the same, and what differs in one field alone is not; no Sacks, and Sacks of length 0, are the same.
func TestSame(t *testing.T) {
	list := append(edges(), checks.With(checks.Full(), checks.Runs(4)), checks.With(checks.Full(), checks.Runs(100)))
	list = append(list, api.Opts{MSS: 9, Scale: 99, Val: 9, Echo: 9, KeyID: 9, NextID: 9, MAC: checks.MAC()})
	for _, o := range list {
		other := o
		other.Sacks = slices.Clone(o.Sacks)
		if !Same(o, o) || !Same(o, other) || !Same(other, o) {
			t.Fatalf("%s is not the same as itself", short(o))
		}
		for _, q := range checks.Differing(o) {
			if Same(o, q) || Same(q, o) {
				t.Fatalf("%s and %s are the same", short(o), short(q))
			}
		}
	}
	for _, o := range []api.Opts{{}, checks.Full(), {SackOK: true}} {
		none, empty, room := o, o, o
		empty.Sacks, room.Sacks = []api.Block{}, make([]api.Block, 9)[:0]
		for _, a := range []api.Opts{none, empty, room} {
			for _, b := range []api.Opts{none, empty, room} {
				if !Same(a, b) || Size(a) != Size(b) || !bytes.Equal(laid(t, a), laid(t, b)) {
					t.Errorf("%s: no Sacks are not the same as Sacks of length 0", short(o))
				}
			}
		}
	}
}

// P12.1: each two of many.
func TestSameOfEachTwo(t *testing.T) {
	list := sets()
	for i, a := range list {
		for j, b := range list {
			if Same(a, b) != (i == j) {
				t.Fatalf("Same(%s; %s) = %t", short(a), short(b), Same(a, b))
			}
		}
	}
}
