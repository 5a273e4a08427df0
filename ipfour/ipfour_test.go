package ipfour

import (
	"bytes"
	"encoding/binary"
	"encoding/hex"
	"math"
	"math/big"
	"math/rand"
	"slices"
	"strings"
	"testing"

	"downhaul/addr"
	"downhaul/api"
	"downhaul/checks"
)

// ordinary is a packet that may be, of that load: neither Whole, nor with More.
func ordinary(load ...byte) api.Packet {
	return api.Packet{Src: addr.Four(10, 0, 0, 1), Dst: addr.Four(192, 168, 200, 254), Proto: 6, Hops: 64, Id: 0x1234, Load: load}
}

// sized is an ordinary packet with a load of n bytes.
func sized(n int) api.Packet { return ordinary(checks.Rising(n)...) }

// edges are packets that may be: each field at its ends, and loads of none, one, and as many bytes as may be.
func edges() []api.Packet {
	out := []api.Packet{{}, checks.Wholly(api.Packet{}), checks.Followed(api.Packet{}), checks.At(65512, checks.Followed(sized(0)))}
	for _, n := range []int{0, 1, 2, 7, 8, 9, 16, 20, 40, 1480, 65507, 65512, 65514, 65515} {
		p := sized(n)
		greatest := (65515 - n) / 8 * 8
		out = append(out, p, checks.Wholly(p), checks.At(greatest, p))
		if n <= 65507 {
			out = append(out, checks.At(8, p))
		}
		if n%8 == 0 {
			out = append(out, checks.Followed(p), checks.At(greatest, checks.Followed(p)))
		}
	}
	for _, n := range []int{3, 11, 65499, 65507, 65515} {
		out = append(out, checks.At(65515-n, sized(n)))
	}
	for _, p := range []api.Packet{sized(0), checks.Wholly(sized(1)), checks.At(8, checks.Followed(sized(8)))} {
		for _, id := range []uint32{0, 1, 255, 256, 1<<15 - 1, 1 << 15, 1<<16 - 2, 1<<16 - 1} {
			out = append(out, checks.Numbered(id, p))
		}
		for _, n := range []uint8{0, 1, 2, 127, 128, 254, 255} {
			out = append(out, checks.Hopping(n, p), checks.Carrying(n, p))
		}
		for _, a := range []api.Addr{addr.Four(0, 0, 0, 0), addr.Four(255, 255, 255, 255), addr.Four(224, 0, 0, 1), addr.Four(1, 2, 3, 4)} {
			out = append(out, checks.Between(a, p.Dst, p), checks.Between(p.Src, a, p), checks.Between(a, a, p))
		}
	}
	return out
}

// unlikely are addresses that no packet of IPv4 may have: of sixteen bytes, and of four with bytes behind the fourth.
func unlikely() []api.Addr {
	others := []api.Addr{{Six: true}, addr.Six(0x2001, 0xDB8, 0, 0, 1, 0, 0, 1), {Six: true, B: [16]byte{10, 0, 0, 1}}, {B: checks.Filled(255)}}
	return append(others, checks.Unlikely(10, 0, 0, 1)...)
}

// wrongs are packets that may not be, each for one reason, or for two at most.
func wrongs() []api.Packet {
	var out []api.Packet
	for _, a := range unlikely() {
		p := sized(8)
		out = append(out, checks.Between(a, p.Dst, p), checks.Between(p.Src, a, p), checks.Between(a, a, p))
	}
	for _, id := range []uint32{1 << 16, 1<<16 + 1, 1<<16 + 0x1234, 1 << 24, 1 << 31, math.MaxUint32} {
		out = append(out, checks.Numbered(id, sized(0)), checks.Numbered(id, checks.Wholly(sized(9))))
	}
	offs := []int{
		-1, -7, -8, -16, -65536, math.MinInt, math.MinInt + 8, // below 0
		1, 2, 3, 4, 5, 6, 7, 9, 12, 65511, 65515, 1<<32 + 4, // no multiples of 8
		65520, 65528, 65536, 65544, 1 << 17, 1 << 32, 1<<32 + 8, 1 << 62, math.MaxInt - 7, math.MaxInt, // too great, whatever the load is
	}
	for _, off := range offs {
		for _, n := range []int{0, 1, 8, 16, 1480, 65512, 65515} {
			out = append(out, checks.At(off, sized(n)))
		}
	}
	for _, n := range []int{65516, 65517, 65520, 65535, 65536, 1<<16 + 8, 1 << 20} {
		out = append(out, sized(n), checks.Wholly(sized(n)), checks.At(8, sized(n)))
	}
	for _, n := range []int{0, 4, 12, 1480, 65507} {
		greatest := (65515 - n) / 8 * 8
		out = append(out, checks.At(greatest+8, sized(n)))
	}
	out = append(out, checks.Followed(sized(65520)), checks.At(8, checks.Followed(sized(65512))), checks.At(65512, checks.Followed(sized(8))))
	for _, n := range []int{1, 2, 3, 4, 5, 6, 7, 9, 12, 15, 17, 1479, 65511, 65513, 65515} {
		out = append(out, checks.Followed(sized(n)))
	}
	out = append(out, checks.At(8, checks.Followed(sized(4))))
	for _, n := range []int{0, 8} {
		p := checks.Wholly(sized(n))
		out = append(out, checks.Followed(p), checks.At(8, p), checks.At(65504, p), checks.At(8, checks.Followed(p)))
	}
	return out
}

// may tells by the chapter's words whether a packet may be.
func may(p api.Packet) bool {
	for _, a := range []api.Addr{p.Src, p.Dst} {
		if a.Six || !bytes.Equal(a.B[4:], make([]byte, 12)) {
			return false
		}
	}
	end := new(big.Int).Add(big.NewInt(int64(p.Off)), big.NewInt(int64(len(p.Load))))
	return p.Id < 65536 && p.Off >= 0 && p.Off%8 == 0 && end.Cmp(big.NewInt(65515)) <= 0 &&
		(!p.More || len(p.Load)%8 == 0) && (!p.Whole || !p.More && p.Off == 0)
}

// byChance is a packet by chance, that may be, of a load of less than most bytes.
func byChance(chance *rand.Rand, most int) api.Packet {
	b := checks.Bytes(chance.Intn, 10)
	p := api.Packet{
		Src: addr.Four(b[0], b[1], b[2], b[3]), Dst: addr.Four(b[4], b[5], b[6], b[7]), Proto: b[8], Hops: b[9],
		Id: uint32(chance.Intn(65536)), Load: checks.Bytes(chance.Intn, chance.Intn(most)),
	}
	switch chance.Intn(4) {
	case 0:
		p.Whole = true
	case 1:
		p.Load = p.Load[:len(p.Load)/8*8]
		p.More = true
		fallthrough
	case 2:
		p.Off = 8 * chance.Intn((65515-len(p.Load))/8+1)
	}
	return p
}

// tried are packets that may be: the edges, and n by chance.
func tried(chance *rand.Rand, n int) []api.Packet {
	list := edges()
	for range n {
		list = append(list, byChance(chance, 200))
	}
	return list
}

// summed are bytes whose header, as long as they tell, has the check sum that fits.
func summed(b []byte) []byte {
	head := b[:min(len(b), 4*int(b[0]&15))]
	copy(b[10:], []byte{0, 0})
	binary.BigEndian.PutUint16(b[10:], ^checks.Sum(head))
	return b
}

// header is a header of IPv4 with its options, and what it tells: right or wrong.
type header struct {
	first    byte
	service  byte
	all      int
	id       uint16
	cut      uint16 // the flags and an eighth of Off
	hops     byte
	proto    byte
	src, dst [4]byte
	options  []byte
}

// headerOf is the header of an ordinary packet, with options and a load of n bytes.
func headerOf(n int, options ...byte) header {
	all := 20 + len(options) + n
	return header{first: byte(0x45 + len(options)/4), all: all, id: 0x1234, hops: 64, proto: 6, src: [4]byte{10, 0, 0, 1}, dst: [4]byte{192, 168, 200, 254}, options: options}
}

// bytes are a header and a load, with a check sum that fits.
func (h header) bytes(load ...byte) []byte {
	b := []byte{h.first, h.service, byte(h.all >> 8), byte(h.all), byte(h.id >> 8), byte(h.id), byte(h.cut >> 8), byte(h.cut), h.hops, h.proto, 0, 0}
	return summed(slices.Concat(b, h.src[:], h.dst[:], h.options, load))
}

// spelt are a packet's bytes by the chapter's words.
func spelt(p api.Packet) []byte {
	h := header{
		first: 0x45, all: 20 + len(p.Load), id: uint16(p.Id), cut: uint16(p.Off / 8), hops: p.Hops, proto: p.Proto,
		src: [4]byte(p.Src.B[:4]), dst: [4]byte(p.Dst.B[:4]),
	}
	if p.Whole {
		h.cut += 0x4000
	}
	if p.More {
		h.cut += 0x2000
	}
	return h.bytes(p.Load...)
}

// laid are the bytes of a packet that must have some.
func laid(t *testing.T, p api.Packet) []byte {
	t.Helper()
	b, e := Lay(p)
	if e != api.OK {
		t.Fatalf("Lay(%s): %v", short(p), e)
	}
	return b
}

// short tells a packet with no more of its load than its beginning.
func short(p api.Packet) string {
	n := len(p.Load)
	p.Load = p.Load[:min(n, 32)]
	return strings.Join([]string{addr.Text(p.Src), addr.Text(p.Dst), hex.EncodeToString(spelt(p)), big.NewInt(int64(p.Off)).String(), big.NewInt(int64(n)).String()}, " ")
}

// P10.1: the chapter's example: a packet of no load has 20 bytes.
func TestExample(t *testing.T) {
	for _, p := range []api.Packet{{}, ordinary(), checks.Wholly(ordinary([]byte{}...)), checks.At(65512, ordinary())} {
		if got := laid(t, p); len(got) != 20 || Head != 20 {
			t.Errorf("%d bytes, %d", len(got), Head)
		}
	}
}

// P10.1, P10.2: known packets, which are laid and parsed so.
func TestKnownPackets(t *testing.T) {
	ping := []byte{8, 0, 0xF7, 0xFC, 0, 1, 0, 2}
	for _, c := range []struct {
		p    api.Packet
		want string
	}{
		{api.Packet{Src: addr.Four(10, 0, 0, 1), Dst: addr.Four(10, 0, 0, 2), Proto: 1, Hops: 64, Load: ping}, "4500001c 00000000 400166df 0a000001 0a000002 0800f7fc 00010002"},
		{api.Packet{Src: addr.Four(172, 16, 10, 99), Dst: addr.Four(172, 16, 10, 12), Proto: 6, Hops: 64, Id: 0x1C46, Whole: true, Load: make([]byte, 40)}, "4500003c 1c464000 4006b1e6 ac100a63 ac100a0c" + strings.Repeat("00", 40)},
		{api.Packet{Src: addr.Four(192, 168, 0, 1), Dst: addr.Four(192, 168, 0, 199), Proto: 17, Hops: 64, Whole: true, Load: make([]byte, 95)}, "45000073 00004000 4011b861 c0a80001 c0a800c7" + strings.Repeat("00", 95)},
		{api.Packet{}, "45000014 00000000 0000baeb 00000000 00000000"},
		{api.Packet{Id: 0xFFFF, Hops: 255, Proto: 255, More: true, Off: 65512, Src: addr.Four(255, 255, 255, 255), Dst: addr.Four(1, 2, 3, 4)}, "45000014 ffff3ffd ffff76e8 ffffffff 01020304"},
		{api.Packet{Hops: 1, Proto: 2, Off: 8, Load: []byte{0xAB}, Src: addr.Four(1, 2, 3, 4), Dst: addr.Four(5, 6, 7, 8)}, "45000015 00000001 0102a9d3 01020304 05060708 ab"},
	} {
		want := checks.Unhex(c.want)
		if got := laid(t, c.p); !bytes.Equal(got, want) {
			t.Errorf("Lay: %x, not %x", got, want)
		}
		if got, e := Parse(want); !checks.Alike(got, c.p) || e != api.OK {
			t.Errorf("Parse(%x) = %v, %v", want, got, e)
		}
	}
}

// P10.1: packets that may be, and their bytes by the chapter's words.
func TestLay(t *testing.T) {
	for i, p := range tried(rand.New(rand.NewSource(101)), 3000) {
		if !May(p) {
			t.Fatalf("%d: %s may not be", i, short(p))
		}
		if got := laid(t, p); !bytes.Equal(got, spelt(p)) {
			t.Fatalf("%d: Lay(%s) = %x", i, short(p), got[:min(len(got), 40)])
		}
	}
}

// P10.1, R1: packets that may not be: ErrArg, and no bytes.
func TestWrongPackets(t *testing.T) {
	for i, p := range wrongs() {
		if May(p) || may(p) {
			t.Errorf("%d: %s may be: %v, %v", i, short(p), May(p), may(p))
		}
		if got, e := Lay(p); len(got) != 0 || e != api.ErrArg {
			t.Errorf("%d: Lay(%s): %d bytes, %v", i, short(p), len(got), e)
		}
	}
}

// P10.1: whatever a packet is made of, it may be as the chapter's words tell, and is laid just then.
func TestMayByWords(t *testing.T) {
	chance := rand.New(rand.NewSource(102))
	addrs := slices.Concat(unlikely(), slices.Repeat([]api.Addr{addr.Four(10, 0, 0, 1), addr.Four(0, 0, 0, 0)}, 300))
	ids := []uint32{0, 1, 65534, 65535, 0x1234, 65535, 7, 65536}
	offs := []int{0, 0, 0, 0, 8, 8, 64, 65504, 65512, 65512 - 1480, 1, 4, -8, 65520, math.MaxInt - 7}
	loads := []int{0, 0, 1, 3, 4, 8, 8, 11, 12, 16, 1480, 1483, 65515, 65516}
	many := [2]int{}
	for range 20000 {
		p := sized(loads[chance.Intn(len(loads))])
		p.Src, p.Dst = addrs[chance.Intn(len(addrs))], addrs[chance.Intn(len(addrs))]
		p.Id, p.Off = ids[chance.Intn(len(ids))], offs[chance.Intn(len(offs))]
		p.Whole, p.More = chance.Intn(3) == 0, chance.Intn(3) == 0
		got, e := Lay(p)
		if May(p) != may(p) || (e == api.OK) != may(p) || !may(p) && (e != api.ErrArg || len(got) != 0) {
			t.Fatalf("%s, Whole %v, More %v: May %v, Lay %v, not %v", short(p), p.Whole, p.More, May(p), e, may(p))
		}
		if may(p) {
			many[0]++
		} else {
			many[1]++
		}
	}
	if min(many[0], many[1]) < 3000 {
		t.Error(many)
	}
}

// P10.1: two that differ in one thing alone are not the same; a load that is nil and one that is empty are (R6).
func TestSame(t *testing.T) {
	other := []func(p *api.Packet){
		func(p *api.Packet) { p.Proto++ },
		func(p *api.Packet) { p.Proto ^= 0x80 },
		func(p *api.Packet) { p.Hops-- },
		func(p *api.Packet) { p.Hops ^= 1 },
		func(p *api.Packet) { p.Id++ },
		func(p *api.Packet) { p.Id += 1 << 16 },
		func(p *api.Packet) { p.Id ^= 1 << 31 },
		func(p *api.Packet) { p.Whole = !p.Whole },
		func(p *api.Packet) { p.More = !p.More },
		func(p *api.Packet) { p.Off++ },
		func(p *api.Packet) { p.Off += 8 },
		func(p *api.Packet) { p.Off += 1 << 16 },
		func(p *api.Packet) { p.Off += 1 << 32 },
		func(p *api.Packet) { p.Off = -p.Off - 1 },
		func(p *api.Packet) { p.Load = append(slices.Clone(p.Load), 0) },
		func(p *api.Packet) { p.Load = append([]byte{0}, p.Load...) },
		func(p *api.Packet) { p.Load = append(slices.Clone(p.Load), make([]byte, 1<<16)...) },
		func(p *api.Packet) { p.Src.Six = !p.Src.Six },
		func(p *api.Packet) { p.Dst.Six = !p.Dst.Six },
	}
	for bit := range 128 {
		other = append(other,
			func(p *api.Packet) { p.Src.B = checks.Flipped(p.Src.B, bit) },
			func(p *api.Packet) { p.Dst.B = checks.Flipped(p.Dst.B, bit) })
	}
	for _, p := range []api.Packet{{}, ordinary(), sized(8), checks.Wholly(sized(9)), checks.At(64, checks.Followed(sized(16)))} {
		again := p
		again.Load = slices.Clone(p.Load)
		if !Same(p, p) || !Same(p, again) || !Same(again, p) {
			t.Errorf("%s is not the same as itself", short(p))
		}
		for i, turn := range other {
			q := checks.With(again, turn)
			if Same(p, q) || Same(q, p) || !Same(q, q) || checks.Alike(p, q) {
				t.Errorf("%s: %d: %v, %v, %v", short(p), i, Same(p, q), Same(q, p), Same(q, q))
			}
		}
		for i := range p.Load {
			q := p
			q.Load = slices.Clone(p.Load)
			q.Load[i] ^= 0x10
			if Same(p, q) || Same(q, p) {
				t.Errorf("%s: the byte %d counts for nothing", short(p), i)
			}
		}
	}
	empty := make([]byte, 0, 8)
	if !Same(ordinary(), ordinary(empty...)) || !Same(ordinary(empty...), ordinary()) {
		t.Error("no load, and none, are not the same")
	}
	turned := checks.Between(addr.Four(192, 168, 200, 254), addr.Four(10, 0, 0, 1), ordinary())
	if Same(ordinary(), turned) || Same(turned, ordinary()) {
		t.Error("addresses may be turned about")
	}
}

// P10.1: of packets that may be, two are the same just if their bytes are.
func TestSameByBytes(t *testing.T) {
	all := edges()
	var texts [][]byte
	for _, p := range all {
		texts = append(texts, laid(t, p))
	}
	for i, p := range all {
		for j, q := range all {
			if got := Same(p, q); got != bytes.Equal(texts[i], texts[j]) || got != checks.Alike(p, q) {
				t.Fatalf("Same of %s and %s is %v", short(p), short(q), got)
			}
		}
	}
}
