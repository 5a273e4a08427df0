package frag

import (
	"bytes"
	"fmt"
	"math"
	"math/rand"
	"slices"
	"testing"

	"downhaul/addr"
	"downhaul/api"
	"downhaul/checks"
	"downhaul/ipfour"
	"downhaul/ipsix"
)

// both are the kinds of packets: of IPv4, and of IPv6.
func both() []bool { return []bool{false, true} }

// sized is a packet that is whole, with a load of n bytes: of IPv4 one that may be cut by whoever it passes, of IPv6 a Whole one.
func sized(six bool, n int) api.Packet {
	w := checks.FourWay()
	if six {
		w = checks.SixWay()
	}
	p := api.Packet{Src: w.Src, Dst: w.Dst, Proto: 17, Hops: 61, Whole: six, Load: checks.Rising(n)}
	if !six {
		p.Id = 0x1234
	}
	return p
}

// short tells a packet with no more of its load than its beginning.
func short(p api.Packet) string {
	ends := addr.Text(p.Src) + " " + addr.Text(p.Dst)
	return fmt.Sprintf("(%s %d %d, Id %d, Whole %t, More %t, Off %d, %d bytes: %x)", ends, p.Proto, p.Hops, p.Id, p.Whole, p.More, p.Off, len(p.Load), p.Load[:min(len(p.Load), 16)])
}

// allAlike tells whether lists of packets are the same.
func allAlike(a, b []api.Packet) bool { return slices.EqualFunc(a, b, checks.Alike) }

// mayBe tells whether a packet may be, by the layer of its kind.
func mayBe(p api.Packet) bool {
	if p.Src.Six {
		return ipsix.May(p)
	}
	return ipfour.May(p)
}

// laidSize is how many bytes a packet has that must have some.
func laidSize(t *testing.T, p api.Packet) int {
	t.Helper()
	lay := ipfour.Lay
	if p.Src.Six {
		lay = ipsix.Lay
	}
	b, e := lay(p)
	if e != api.OK {
		t.Fatalf("Lay(%s): %v", short(p), e)
	}
	return len(b)
}

// cutByWords are the pieces of a packet, and the error, by the chapter's words.
func cutByWords(p api.Packet, mtu int, id uint32) ([]api.Packet, api.Errno) {
	row := map[bool][3]int{false: {20, 20, 28}, true: {40, 48, 56}}[p.Src.Six]
	if !mayBe(p) || p.Off != 0 || p.More || p.Src.Six && !p.Whole || mtu < row[2] {
		return nil, api.ErrArg
	}
	if row[0]+len(p.Load) <= mtu {
		return []api.Packet{p}, api.OK
	}
	if !p.Src.Six {
		if id = p.Id; p.Whole {
			return nil, api.ErrMany
		}
	}
	var out []api.Packet
	each := 8
	for row[1]+each+8 <= mtu {
		each += 8
	}
	for at := 0; at < len(p.Load); at += each {
		upTo := min(at+each, len(p.Load))
		out = append(out, api.Packet{
			Src: p.Src, Dst: p.Dst, Proto: p.Proto, Hops: p.Hops,
			Id: id, More: upTo != len(p.Load), Off: at, Load: p.Load[at:upTo],
		})
	}
	return out, api.OK
}

// pieces are those of a packet that must be cut.
func pieces(t *testing.T, p api.Packet, mtu int, id uint32) []api.Packet {
	t.Helper()
	list, e := Cut(p, mtu, id)
	if e != api.OK {
		t.Fatalf("Cut(%s, %d): %v", short(p), mtu, e)
	}
	return list
}

// checkCut holds Cut to the chapter's words, and answers the pieces.
func checkCut(t *testing.T, p api.Packet, mtu int, id uint32) []api.Packet {
	t.Helper()
	was := checks.With(p, func(p *api.Packet) { p.Load = slices.Clone(p.Load) })
	got, e := Cut(p, mtu, id)
	want, f := cutByWords(p, mtu, id)
	if e != f || !allAlike(got, want) {
		t.Fatalf("Cut(%s, %d, %d): %d pieces, %v, not %d, %v", short(p), mtu, id, len(got), e, len(want), f)
	}
	if !checks.Alike(p, was) {
		t.Fatalf("Cut(%s, %d, %d): the packet was written into", short(was), mtu, id)
	}
	return got
}

// sizesOf are how many bytes pieces have.
func sizesOf(list []api.Packet) []int {
	var out []int
	for _, p := range list {
		out = append(out, len(p.Load))
	}
	return out
}

// P15.1: the chapter's example: each but the last one has a multiple of 8 bytes, even if all that is left would fit.
func TestExample(t *testing.T) {
	list := pieces(t, sized(false, 100), 48, 0)
	if got := sizesOf(list); !slices.Equal(got, []int{24, 24, 24, 24, 4}) {
		t.Error(got)
	}
	for i, p := range list {
		if laidSize(t, p) > 48 || p.Off != 24*i || p.More != (i < 4) {
			t.Errorf("%d: %s", i, short(p))
		}
	}
}

// P15.1: known pieces: all their fields.
func TestKnownPieces(t *testing.T) {
	four := sized(false, 21)
	four.Hops, four.Proto, four.Id = 7, 6, 65535
	want := api.Packet{Src: four.Src, Dst: four.Dst, Hops: 7, Proto: 6, Id: 65535}
	first := checks.With(want, func(p *api.Packet) { p.More, p.Load = true, []byte{0, 1, 2, 3, 4, 5, 6, 7} })
	second := checks.With(want, func(p *api.Packet) { p.More, p.Off, p.Load = true, 8, []byte{8, 9, 10, 11, 12, 13, 14, 15} })
	third := checks.With(want, func(p *api.Packet) { p.Off, p.Load = 16, []byte{16, 17, 18, 19, 20} })
	for mtu := 28; mtu < 36; mtu++ {
		if got := pieces(t, four, mtu, 9); !allAlike(got, []api.Packet{first, second, third}) {
			t.Errorf("of an mtu of %d: %v", mtu, got)
		}
	}
	six := sized(true, 21)
	six.Hops, six.Proto = 255, 58
	want = api.Packet{Src: six.Src, Dst: six.Dst, Hops: 255, Proto: 58, Id: math.MaxUint32}
	first = checks.With(want, func(p *api.Packet) { p.More, p.Load = true, []byte{0, 1, 2, 3, 4, 5, 6, 7} })
	second = checks.With(want, func(p *api.Packet) { p.More, p.Off, p.Load = true, 8, []byte{8, 9, 10, 11, 12, 13, 14, 15} })
	third = checks.With(want, func(p *api.Packet) { p.Off, p.Load = 16, []byte{16, 17, 18, 19, 20} })
	for mtu := 56; mtu < 61; mtu++ {
		if got := pieces(t, six, mtu, math.MaxUint32); !allAlike(got, []api.Packet{first, second, third}) {
			t.Errorf("of an mtu of %d: %v", mtu, got)
		}
	}
	if got := pieces(t, six, 61, 9); !allAlike(got, []api.Packet{six}) {
		t.Errorf("of an mtu of 61: %v", got)
	}
}

// P15.1: all small loads over all small mtus, by the chapter's words; each piece fits, and no larger one would.
func TestCut(t *testing.T) {
	for _, six := range both() {
		head, ahead := 20, 20
		if six {
			head, ahead = 40, 48
		}
		for n := range 140 {
			p := sized(six, n)
			for mtu := 20; mtu < 200; mtu++ {
				list := checkCut(t, p, mtu, 0x89ABCDEF)
				for _, q := range list {
					size := laidSize(t, q)
					if size > mtu || q.More && (size+8 <= mtu || len(q.Load)%8 != 0) || (len(list) == 1) != (head+n <= mtu) {
						t.Fatalf("Cut(%s, %d): %s", short(p), mtu, short(q))
					}
				}
				if mtu >= ahead+8 && len(list) == 0 {
					t.Fatalf("Cut(%s, %d): nothing", short(p), mtu)
				}
			}
		}
	}
}

// P15.1: loads that are a multiple of the piece's bytes, one byte more, and one less: how many pieces, and how many bytes the last one has.
func TestMultiples(t *testing.T) {
	for _, six := range both() {
		head, ahead := 20, 20
		if six {
			head, ahead = 40, 48
		}
		for _, each := range []int{8, 16, 24, 552, 1232, 1480} {
			for rest := range 8 {
				for many := 2; many < 5; many++ {
					for _, c := range [][3]int{{many * each, many, each}, {many*each - 1, many, each - 1}, {many*each + 1, many + 1, 1}} {
						mtu := ahead + each + rest
						if head+c[0] <= mtu {
							continue
						}
						list := checkCut(t, sized(six, c[0]), mtu, 5)
						if sizes := sizesOf(list); len(sizes) != c[1] || sizes[0] != each || sizes[c[1]-1] != c[2] {
							t.Errorf("%d bytes in pieces of %d: %v", c[0], each, sizes)
						}
					}
				}
			}
		}
	}
}

// P15.1: header and load of just mtu bytes are one packet, as it was; of one more they are two pieces.
func TestJustFits(t *testing.T) {
	for _, six := range both() {
		head, least := 20, 28
		if six {
			head, least = 40, 56
		}
		for _, mtu := range []int{least, least + 1, least + 7, least + 8, 68, 576, 1280, 1500, 9000, 65535} {
			p := sized(six, mtu-head)
			if got := pieces(t, p, mtu, 77); !allAlike(got, []api.Packet{p}) {
				t.Errorf("Cut(%s, %d) = %d pieces", short(p), mtu, len(got))
			}
			if got := pieces(t, sized(six, mtu-head-1), mtu, 77); len(got) != 1 {
				t.Errorf("%d bytes less one: %d pieces", mtu, len(got))
			}
			q := sized(six, mtu-head+1)
			if six || mtu < 65535 {
				if got := pieces(t, q, mtu, 77); len(got) < 2 || !allAlike(got, checkCut(t, q, mtu, 77)) {
					t.Errorf("Cut(%s, %d) = %d pieces", short(q), mtu, len(got))
				}
			}
		}
		for _, mtu := range []int{least, 1500, 65535, 65536, 1 << 32, math.MaxInt - 1, math.MaxInt} {
			if got := pieces(t, sized(six, 0), mtu, 77); !allAlike(got, []api.Packet{sized(six, 0)}) {
				t.Errorf("no load, %d: %v", mtu, got)
			}
		}
	}
}

// P15.1: the greatest packets, over mtus at which there is a piece less.
func TestGreatest(t *testing.T) {
	for _, six := range both() {
		all, mtus := 65515, []int{28, 36, 576, 1500, 32777, 32778, 32780, 65532, 65534, 65535}
		if six {
			all, mtus = 65527, []int{56, 64, 1280, 1500, 32815, 32816, 65535, 65560, 65566, 65567, 65568}
		}
		p := sized(six, all)
		p.Load = checks.Bytes(rand.New(rand.NewSource(161)).Intn, all)
		for _, mtu := range append(mtus, 1<<20, math.MaxInt) {
			list := checkCut(t, p, mtu, 0x01020304)
			var load []byte
			for _, q := range list {
				if laidSize(t, q) > mtu {
					t.Fatalf("mtu %d: %s", mtu, short(q))
				}
				load = append(load, q.Load...)
			}
			if !bytes.Equal(load, p.Load) {
				t.Errorf("mtu %d: the loads are not the packet's", mtu)
			}
		}
	}
	if got := len(pieces(t, sized(false, 65515), 28, 0)); got != 8190 {
		t.Error(got)
	}
}

// P15.1: the least mtus, and those below them, whatever the load is.
func TestLeastMTUs(t *testing.T) {
	for _, six := range both() {
		least := 28
		if six {
			least = 56
		}
		for _, n := range []int{0, 1, 8, 9, 16, 17, 100} {
			for mtu := least; mtu < least+20; mtu++ {
				checkCut(t, sized(six, n), mtu, 3)
				pieces(t, sized(six, n), mtu, 3)
			}
			for _, mtu := range []int{least - 1, least - 2, least - 8, 20, 8, 7, 1, 0, -1, -8, -20, -48, -1 << 32, math.MinInt + 20, math.MinInt + 1, math.MinInt} {
				if got, e := Cut(sized(six, n), mtu, 3); got != nil || e != api.ErrArg {
					t.Errorf("%d bytes, %d: %v, %v", n, mtu, got, e)
				}
			}
		}
	}
	// What is enough of IPv4 is not of IPv6.
	for mtu := 28; mtu < 56; mtu++ {
		if got, e := Cut(sized(true, 0), mtu, 3); got != nil || e != api.ErrArg {
			t.Errorf("%d: %v, %v", mtu, got, e)
		}
	}
}

// P15.1: a Whole packet of IPv4 goes alone, or not at all; one of IPv6 is cut.
func TestWholePackets(t *testing.T) {
	for n := 8; n < 60; n++ {
		p := checks.Wholly(sized(false, n))
		for mtu := 28; mtu < 90; mtu++ {
			got, e := Cut(p, mtu, 5)
			if fits := n+20 <= mtu; fits != (e == api.OK) || fits && !allAlike(got, []api.Packet{p}) || !fits && (got != nil || e != api.ErrMany) {
				t.Errorf("Cut(%s, %d) = %v, %v", short(p), mtu, got, e)
			}
		}
		if list := pieces(t, sized(true, n), 56, 5); n > 16 && slices.ContainsFunc(list, func(p api.Packet) bool { return p.Whole }) {
			t.Errorf("%d bytes: a Whole piece", n)
		}
	}
	// Of both errors the first one is told.
	if got, e := Cut(checks.Wholly(sized(false, 100)), 27, 5); got != nil || e != api.ErrArg {
		t.Error(got, e)
	}
}

// P15.1: of IPv6 the Id is the one given, of IPv4 the packet's own; alone a packet stays as it was.
func TestIds(t *testing.T) {
	for _, id := range []uint32{0, 1, 255, 1<<16 - 1, 1 << 16, 1 << 31, math.MaxUint32} {
		for _, own := range []uint32{0, 1, 0x1234, 1<<16 - 1} {
			p := checks.Numbered(own, sized(false, 50))
			for _, q := range pieces(t, p, 36, id) {
				if q.Id != own {
					t.Errorf("%d given: %s", id, short(q))
				}
			}
			if got := pieces(t, p, 1500, id); !allAlike(got, []api.Packet{p}) {
				t.Errorf("%d given: %v", id, got)
			}
		}
		for _, q := range pieces(t, sized(true, 50), 64, id) {
			if q.Id != id {
				t.Errorf("%d given: %s", id, short(q))
			}
		}
		if got := pieces(t, sized(true, 50), 1500, id); !allAlike(got, []api.Packet{sized(true, 50)}) {
			t.Errorf("%d given: %v", id, got)
		}
	}
}

// P15.1: of the packet's fields each stands in all pieces.
func TestFields(t *testing.T) {
	for _, six := range both() {
		for n := range 256 {
			p := checks.Hopping(uint8(n), sized(six, 40))
			checkCut(t, p, 64, 8)
			checkCut(t, checks.Carrying(uint8(n), p), 64, 8)
			for i := range 16 {
				if six || i < 4 {
					q := checks.With(p, func(p *api.Packet) { p.Src.B[i] = uint8(n) })
					checkCut(t, q, 64, 8)
					checkCut(t, checks.Between(q.Dst, q.Src, q), 64, 8)
				}
			}
		}
	}
}

// impossible are packets that may not be, of both kinds, each for one reason.
func impossible() []api.Packet {
	four, six := sized(false, 40), sized(true, 40)
	out := []api.Packet{
		{Src: addr.Six()}, {Dst: addr.Six()}, // of two kinds
		checks.Between(four.Src, six.Dst, four), checks.Between(six.Src, four.Dst, four),
		checks.Between(four.Src, six.Dst, six), checks.Between(six.Src, four.Dst, six),
		checks.Wholly(checks.Between(six.Src, six.Dst, four)), // of IPv6, with an Id
		checks.Numbered(1<<16, four), checks.Numbered(math.MaxUint32, four),
		checks.Numbered(1, six), checks.Numbered(1<<31, six),
		sized(false, 65516), checks.Wholly(sized(false, 65516)), sized(false, 1<<17), sized(true, 65528), sized(true, 1<<17),
		checks.Wholly(checks.Followed(four)), checks.Followed(six), checks.At(8, six), checks.Wholly(checks.At(8, four)),
		checks.Between(six.Src, six.Dst, checks.Wholly(checks.At(8, four))),
	}
	for _, proto := range []uint8{0, 43, 44, 60} {
		out = append(out, checks.Carrying(proto, six), checks.Carrying(proto, piece(true, 8, 8, true)))
	}
	for i := 4; i < 16; i++ {
		src, dst := four.Src, four.Dst
		src.B[i], dst.B[i] = 1, 128
		out = append(out, checks.Between(src, four.Dst, four), checks.Between(four.Src, dst, piece(false, 8, 8, true)))
	}
	for _, is := range both() {
		for _, off := range []int{-1, -8, 1, 4, 7, 9, 65528, 65536, 1 << 32, math.MaxInt, math.MaxInt - 7, math.MinInt, math.MinInt + 8} {
			out = append(out, checks.At(off, piece(is, 8, 8, true)), checks.At(off, piece(is, 8, 3, false)))
		}
		for _, n := range []int{1, 7, 9, 15} {
			out = append(out, piece(is, 0, n, true), piece(is, 16, n, true))
		}
		out = append(out, piece(is, 65512, 16, true), piece(is, 65512, 16, false), piece(is, 65504, 24, false))
	}
	return out
}

// P15.1: packets that may not be, ones that are not whole, and of IPv6 ones that are not Whole: ErrArg, over all mtus.
func TestNotCut(t *testing.T) {
	list := impossible()
	for _, p := range list {
		if mayBe(p) {
			t.Errorf("%s may be", short(p))
		}
	}
	for _, six := range both() {
		for _, p := range []api.Packet{piece(six, 0, 8, true), piece(six, 0, 0, true), piece(six, 8, 0, true), piece(six, 8, 8, true), piece(six, 8, 8, false), piece(six, 8, 0, false), piece(six, 8, 5, false), piece(six, 65504, 8, false), piece(six, 0, 800, true)} {
			if list = append(list, p); !mayBe(p) {
				t.Errorf("%s may not be", short(p))
			}
		}
	}
	for _, n := range []int{0, 1, 40, 100, 65527} {
		p := sized(true, n)
		p.Whole = false
		list = append(list, p, checks.Numbered(1, p), checks.Numbered(math.MaxUint32, p))
	}
	for _, p := range list {
		for _, mtu := range []int{math.MinInt, -1, 0, 27, 28, 55, 56, 68, 1280, 1500, 65535, 1 << 20, math.MaxInt} {
			if got, e := Cut(p, mtu, 1); got != nil || e != api.ErrArg {
				t.Fatalf("Cut(%s, %d) = %d, %v", short(p), mtu, len(got), e)
			}
		}
	}
}

// P15.1: whatever packet and mtu, by chance: the pieces are those of the chapter's words.
func TestCutByChance(t *testing.T) {
	chance := rand.New(rand.NewSource(162))
	many := map[api.Errno]int{}
	for range 20000 {
		six := chance.Intn(2) == 0
		p := sized(six, chance.Intn(300))
		for i := range p.Load {
			p.Load[i] = byte(chance.Intn(256))
		}
		switch chance.Intn(12) {
		case 0, 1:
			p.Whole = !p.Whole
		case 2:
			p.More = true
		case 3:
			p.Off = 8 * chance.Intn(3)
		case 4:
			p.Id = uint32(1 << chance.Intn(32))
		}
		mtu := chance.Intn(350)
		_, e := Cut(p, mtu, 1)
		many[e]++
		checkCut(t, p, mtu, chance.Uint32())
	}
	if many[api.OK] < 1000 || many[api.ErrArg] < 1000 || many[api.ErrMany] < 100 {
		t.Error(many)
	}
}
