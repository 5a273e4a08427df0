package ipsix

import (
	"bytes"
	"encoding/binary"
	"fmt"
	"math"
	"math/big"
	"math/rand"
	"slices"
	"strings"
	"testing"

	"downhaul/addr"
	"downhaul/api"
	"downhaul/checks"
)

// gone are the kinds of the headers that are gone past, and lengthy those that tell their length.
const (
	gone    = "\x00\x2B\x2C\x3C"
	lengthy = "\x00\x2B\x3C"
)

// isGone tells of what comes next whether it is such a header.
func isGone(next byte) bool { return strings.IndexByte(gone, next) >= 0 }

// ordinary is a packet that may be, of that load: Whole.
func ordinary(load ...byte) api.Packet {
	return api.Packet{Src: addr.Six(0x2001, 0xDB8, 0, 0, 0, 0, 0, 1), Dst: addr.Six(0xFE80, 0, 0, 0, 0x211, 0x22FF, 0xFE33, 0x4455), Proto: 6, Hops: 64, Whole: true, Load: load}
}

// sized is an ordinary packet with a load of n bytes.
func sized(n int) api.Packet { return ordinary(checks.Rising(n)...) }

// cut is a packet as a piece: not Whole, and with an Id.
func cut(p api.Packet) api.Packet {
	return checks.With(p, func(p *api.Packet) { p.Whole, p.Id = false, 0x12345678 })
}

// empty is a packet of no load, all of which is 0, but that it is Whole, and its Proto.
func empty() api.Packet { return api.Packet{Src: addr.Six(), Dst: addr.Six(), Proto: 59, Whole: true} }

// edges are packets that may be: each field at its ends, and loads of none, one, and as many bytes as may be.
func edges() []api.Packet {
	out := []api.Packet{empty(), checks.Numbered(0, cut(empty())), checks.At(65520, checks.Followed(cut(empty())))}
	for _, n := range []int{0, 1, 2, 7, 8, 9, 16, 40, 48, 1240, 1480, 65512, 65519, 65520, 65521, 65526, 65527} {
		p := sized(n)
		greatest := (65527 - n) / 8 * 8
		out = append(out, p, cut(p), checks.At(greatest, cut(p)))
		if n <= 65519 {
			out = append(out, checks.At(8, cut(p)))
		}
		if n%8 == 0 {
			out = append(out, checks.Followed(cut(p)), checks.At(greatest, checks.Followed(cut(p))))
		}
	}
	for _, n := range []int{7, 15, 1487, 65511, 65519, 65527} {
		out = append(out, checks.At(65527-n, cut(sized(n))))
	}
	for _, p := range []api.Packet{cut(sized(0)), cut(sized(9)), checks.At(8, checks.Followed(cut(sized(8))))} {
		for _, id := range []uint32{0, 1, 255, 256, 1<<16 - 1, 1 << 16, 1<<31 - 1, 1 << 31, 1<<32 - 2, 1<<32 - 1} {
			out = append(out, checks.Numbered(id, p))
		}
	}
	for _, p := range []api.Packet{sized(0), sized(1), cut(sized(9)), checks.At(8, checks.Followed(cut(sized(8))))} {
		for _, n := range []uint8{1, 2, 42, 45, 59, 61, 127, 128, 254, 255} {
			out = append(out, checks.Hopping(n, p), checks.Carrying(n, p))
		}
		out = append(out, checks.Hopping(0, p))
		for _, a := range []api.Addr{addr.Six(), addr.Six(0xFF02, 0, 0, 0, 0, 0, 0, 1), {Six: true, B: checks.Filled(255)}, {Six: true, B: [16]byte{10, 0, 0, 1}}, {Six: true, B: [16]byte(checks.Rising(16))}} {
			out = append(out, checks.Between(a, p.Dst, p), checks.Between(p.Src, a, p), checks.Between(a, a, p))
		}
	}
	return out
}

// strange are addresses that no packet of IPv6 may have: those of four bytes, also with bytes behind the fourth.
func strange() []api.Addr {
	return []api.Addr{{}, addr.Four(10, 0, 0, 1), addr.Four(255, 255, 255, 255), {B: checks.Filled(255)}, {B: ordinary().Src.B}}
}

// wrongs are packets that may not be, each for one reason, or for two at most.
func wrongs() []api.Packet {
	out := []api.Packet{{}, {Whole: true}, {Proto: 6}, {Proto: 6, Whole: true}}
	for _, a := range strange() {
		for _, p := range []api.Packet{sized(8), cut(sized(8))} {
			out = append(out, checks.Between(a, p.Dst, p), checks.Between(p.Src, a, p), checks.Between(a, a, p))
		}
	}
	for i := range len(gone) {
		for _, p := range []api.Packet{empty(), sized(8), cut(sized(0)), checks.At(8, checks.Followed(cut(sized(8))))} {
			out = append(out, checks.Carrying(gone[i], p))
		}
	}
	offs := []int{
		-1, -7, -8, -16, -65536, math.MinInt, math.MinInt + 8, // below 0
		1, 2, 3, 4, 5, 6, 7, 9, 12, 65519, 65527, 1<<32 + 4, // no multiples of 8
		65528, 65529, 65536, 65544, 1 << 17, 1 << 32, 1<<32 + 8, 1 << 62, math.MaxInt - 7, math.MaxInt, // too great, whatever the load is
	}
	for _, off := range offs {
		for _, n := range []int{0, 1, 8, 16, 1480, 65520, 65527} {
			out = append(out, checks.At(off, cut(sized(n))))
		}
		out = append(out, checks.At(off, checks.Followed(cut(sized(16)))))
	}
	for _, n := range []int{65528, 65529, 65535, 65536, 1<<16 + 8, 1 << 20} {
		out = append(out, sized(n), cut(sized(n)), checks.At(8, cut(sized(n))))
	}
	for _, n := range []int{0, 4, 7, 12, 1480, 65519} {
		greatest := (65527 - n) / 8 * 8
		out = append(out, checks.At(greatest+8, cut(sized(n))))
	}
	out = append(out, checks.Followed(cut(sized(65528))), checks.At(8, checks.Followed(cut(sized(65520)))), checks.At(65520, checks.Followed(cut(sized(8)))))
	for _, n := range []int{1, 2, 3, 4, 5, 6, 7, 9, 12, 15, 17, 1479, 65519, 65521, 65527} {
		out = append(out, checks.Followed(cut(sized(n))))
	}
	out = append(out, checks.At(8, checks.Followed(cut(sized(4)))))
	for _, n := range []int{0, 8} {
		p := sized(n)
		out = append(out, checks.Followed(p), checks.At(8, p), checks.At(65512, p), checks.At(8, checks.Followed(p)))
		for _, id := range []uint32{1, 255, 1 << 16, 1 << 31, math.MaxUint32} {
			out = append(out, checks.Numbered(id, p))
		}
	}
	return out
}

// may tells by the chapter's words whether a packet may be.
func may(p api.Packet) bool {
	end := new(big.Int).Add(big.NewInt(int64(p.Off)), big.NewInt(int64(len(p.Load))))
	return p.Src.Six && p.Dst.Six && p.Off >= 0 && p.Off%8 == 0 && p.Off <= 65528 && end.Cmp(big.NewInt(65527)) <= 0 &&
		(!p.More || len(p.Load)%8 == 0) && !isGone(p.Proto) && (!p.Whole || !p.More && p.Off == 0 && p.Id == 0)
}

// byChance is a packet by chance, that may be, of a load of less than most bytes.
func byChance(chance *rand.Rand, most int) api.Packet {
	b := checks.Bytes(chance.Intn, 2)
	p := api.Packet{
		Src: api.Addr{Six: true, B: checks.Block(chance.Intn)}, Dst: api.Addr{Six: true, B: checks.Block(chance.Intn)},
		Proto: b[0], Hops: b[1], Load: checks.Bytes(chance.Intn, chance.Intn(most)),
	}
	if isGone(p.Proto) {
		p.Proto = 59
	}
	switch chance.Intn(4) {
	case 0:
		p.Load = p.Load[:len(p.Load)/8*8]
		p.More = true
		fallthrough
	case 1:
		p.Off = 8 * chance.Intn((65527-len(p.Load))/8+1)
		fallthrough
	case 2:
		p.Id = chance.Uint32()
	case 3:
		p.Whole = true
	}
	return p
}

// tried are packets that may be: the edges, and n by chance.
func tried(chance *rand.Rand, n int) []api.Packet {
	list := edges()
	for range n {
		list = append(list, byChance(chance, 200))
	}
	return list
}

// spelt are a packet's bytes by the chapter's words.
func spelt(p api.Packet) []byte {
	size, next := len(p.Load), p.Proto
	var piece []byte
	if !p.Whole {
		size, next = size+8, 44
		piece = []byte{p.Proto, 0, byte(p.Off >> 8), byte(p.Off), byte(p.Id >> 24), byte(p.Id >> 16), byte(p.Id >> 8), byte(p.Id)}
		if p.More {
			piece[3]++
		}
	}
	return slices.Concat([]byte{0x60, 0, 0, 0, byte(size >> 8), byte(size), next, p.Hops}, p.Src.B[:], p.Dst.B[:], piece, p.Load)
}

// laid are the bytes of a packet that must have some.
func laid(t *testing.T, p api.Packet) []byte {
	t.Helper()
	b, e := Lay(p)
	if e != api.OK {
		t.Fatalf("Lay(%s): %v", short(p), e)
	}
	return b
}

// short tells a packet with no more of its load than its beginning.
func short(p api.Packet) string {
	n := len(p.Load)
	p.Load = p.Load[:min(n, 32)]
	return fmt.Sprintf("%+v of %d bytes", p, n)
}

// P11.1: the chapter's example: a Whole packet of no load has 40 bytes, a fragment 48.
func TestExample(t *testing.T) {
	for _, p := range []api.Packet{empty(), ordinary(), ordinary([]byte{}...)} {
		if got := laid(t, p); len(got) != 40 || Head != 40 {
			t.Errorf("%d bytes, %d", len(got), Head)
		}
		for _, q := range []api.Packet{cut(p), checks.Followed(cut(p)), checks.At(65520, cut(p))} {
			if got := laid(t, q); len(got) != 48 {
				t.Errorf("%d bytes of %s", len(got), short(q))
			}
		}
	}
}

// P11.1, P11.2: known packets, which are laid and parsed so.
func TestKnownPackets(t *testing.T) {
	const ends = " 20010db8000000000000000000000001 20010db8000000000000000000000002 "
	src, dst := addr.Six(0x2001, 0xDB8, 0, 0, 0, 0, 0, 1), addr.Six(0x2001, 0xDB8, 0, 0, 0, 0, 0, 2)
	ping := []byte{0x80, 0, 0x22, 0x63, 0, 1, 0, 2}
	zeros := strings.Repeat("00", 32)
	for _, c := range []struct {
		p    api.Packet
		want string
	}{
		{api.Packet{Src: src, Dst: dst, Proto: 58, Hops: 64, Whole: true, Load: ping}, "60000000 0008 3a 40" + ends + "80002263 00010002"},
		{api.Packet{Src: src, Dst: dst, Proto: 58, Hops: 64, Load: ping}, "60000000 0010 2c 40" + ends + "3a 00 0000 00000000 80002263 00010002"},
		{empty(), "60000000 0000 3b 00" + zeros},
		{api.Packet{Src: src, Dst: dst, Proto: 17, Hops: 255, Id: 0xFFFFFFFF, More: true, Off: 65520}, "60000000 0008 2c ff" + ends + "11 00 fff1 ffffffff"},
		{api.Packet{Src: src, Dst: dst, Proto: 6, Hops: 1, Id: 0x01020304, Off: 8, Load: []byte{0xAB}}, "60000000 0009 2c 01" + ends + "06 00 0008 01020304 ab"},
		{api.Packet{Src: src, Dst: dst, Proto: 255, Hops: 2, Id: 7, More: true, Load: make([]byte, 1232)}, "60000000 04d8 2c 02" + ends + "ff 00 0001 00000007" + strings.Repeat("00", 1232)},
		{api.Packet{Src: dst, Dst: src, Proto: 59, Hops: 2, Id: 1 << 31, Off: 1232, Load: []byte{1, 2, 3}}, "60000000 000b 2c 02 20010db8000000000000000000000002 20010db8000000000000000000000001 3b 00 04d0 80000000 010203"},
		{api.Packet{Src: src, Dst: dst, Proto: 6, Hops: 64, Whole: true, Load: make([]byte, 65527)}, "60000000 fff7 06 40" + ends + strings.Repeat("00", 65527)},
		{api.Packet{Src: src, Dst: dst, Proto: 6, Hops: 64, Load: make([]byte, 65527)}, "60000000 ffff 2c 40" + ends + "06 00 0000 00000000" + strings.Repeat("00", 65527)},
	} {
		want := checks.Unhex(c.want)
		if got := laid(t, c.p); !bytes.Equal(got, want) {
			t.Errorf("Lay: %x, not %x", got[:min(len(got), 60)], want[:min(len(want), 60)])
		}
		if got, e := Parse(want); !checks.Alike(got, c.p) || e != api.OK {
			t.Errorf("Parse(%x) = %s, %v", want[:min(len(want), 60)], short(got), e)
		}
	}
}

// P11.1: packets that may be, and their bytes by the chapter's words.
func TestLay(t *testing.T) {
	for i, p := range tried(rand.New(rand.NewSource(111)), 3000) {
		if !May(p) || !may(p) {
			t.Fatalf("%d: %s may not be", i, short(p))
		}
		if got := laid(t, p); !bytes.Equal(got, spelt(p)) {
			t.Fatalf("%d: Lay(%s) = %x", i, short(p), got[:min(len(got), 60)])
		}
	}
}

// P11.1, R1: packets that may not be: ErrArg, and no bytes.
func TestWrongPackets(t *testing.T) {
	for i, p := range wrongs() {
		if May(p) || may(p) {
			t.Errorf("%d: %s may be: %v, %v", i, short(p), May(p), may(p))
		}
		if got, e := Lay(p); len(got) != 0 || e != api.ErrArg {
			t.Errorf("%d: Lay(%s): %d bytes, %v", i, short(p), len(got), e)
		}
	}
}

// P11.1, P11.2: of each Proto a packet may be, Whole or not, but of the four headers.
func TestEachProto(t *testing.T) {
	for n := range 256 {
		proto := byte(n)
		for _, p := range []api.Packet{sized(0), sized(24), cut(sized(24)), checks.At(8, checks.Followed(cut(sized(24))))} {
			p = checks.Carrying(proto, p)
			got, e := Lay(p)
			if isGone(proto) {
				if May(p) || len(got) != 0 || e != api.ErrArg {
					t.Errorf("%s: %v, %d bytes, %v", short(p), May(p), len(got), e)
				}
				continue
			}
			if !May(p) || !bytes.Equal(got, spelt(p)) || e != api.OK || !checks.Alike(parsed(t, got), p) {
				t.Errorf("%s: %v, %x, %v", short(p), May(p), got, e)
			}
		}
	}
}

// P11.1: Off and the load's end: each Off up to the greatest, with the load that reaches just to 65527, and one byte more.
func TestEachEnd(t *testing.T) {
	load := checks.Rising(65536)
	for off := 0; off <= 65536; off++ {
		p := checks.At(off, cut(ordinary()))
		if want := off%8 == 0 && off < 65528; May(p) != want {
			t.Fatalf("an Off of %d may be: %v", off, May(p))
		}
		if off > 65527 {
			continue
		}
		p.Load = load[:65527-off]
		if May(p) != (off%8 == 0) {
			t.Fatalf("an Off of %d, to the greatest end: %v", off, May(p))
		}
		p.Load = load[:65528-off]
		if May(p) || May(checks.Followed(p)) {
			t.Fatalf("an Off of %d, behind the greatest end: %v, %v", off, May(p), May(checks.Followed(p)))
		}
	}
}

// P11.1: whatever a packet is made of, it may be as the chapter's words tell, and is laid just then.
func TestMayByWords(t *testing.T) {
	chance := rand.New(rand.NewSource(112))
	addrs := slices.Concat(strange(), slices.Repeat([]api.Addr{ordinary().Src, addr.Six()}, 20))
	ids := []uint32{0, 0, 0, 0, 1, 0xFFFFFFFF}
	offs := []int{0, 0, 0, 0, 8, 8, 64, 65512, 65520, 65520, 65520 - 1480, 65528, 1, 4, -8, 65536, math.MaxInt - 7}
	loads := []int{0, 0, 1, 3, 7, 8, 8, 12, 15, 16, 1480, 1487, 65519, 65527, 65528}
	protos := []uint8{6, 6, 6, 17, 58, 59, 1, 255, 0, 43, 44, 60}
	many := [2]int{}
	for range 20000 {
		p := sized(loads[chance.Intn(len(loads))])
		p.Src, p.Dst = addrs[chance.Intn(len(addrs))], addrs[chance.Intn(len(addrs))]
		p.Id, p.Off = ids[chance.Intn(len(ids))], offs[chance.Intn(len(offs))]
		p.Whole, p.More = chance.Intn(3) == 0, chance.Intn(3) == 0
		p.Proto = protos[chance.Intn(len(protos))]
		got, e := Lay(p)
		if May(p) != may(p) || (e == api.OK) != may(p) || !may(p) && (e != api.ErrArg || len(got) != 0) {
			t.Fatalf("%s: May %v, Lay %v, not %v", short(p), May(p), e, may(p))
		}
		if may(p) {
			many[0]++
		} else {
			many[1]++
		}
	}
	if min(many[0], many[1]) < 2000 {
		t.Error(many)
	}
}

// R6: a load that is nil, and one that is empty, are laid as one.
func TestNoLoad(t *testing.T) {
	for _, p := range []api.Packet{ordinary(), cut(ordinary()), checks.At(64, checks.Followed(cut(ordinary())))} {
		q := p
		q.Load = make([]byte, 0, 10)
		if !May(p) || !May(q) || !bytes.Equal(laid(t, p), laid(t, q)) || binary.BigEndian.Uint16(laid(t, p)[4:]) != uint16(len(laid(t, p))-40) {
			t.Errorf("%s is laid as %x, and %x", short(p), laid(t, p), laid(t, q))
		}
	}
}
