package chksum

import (
	"bytes"
	"encoding/binary"
	"math"
	"math/big"
	"math/rand"
	"slices"
	"testing"

	"downhaul/api"
	"downhaul/checks"
)

// hex is bytes of numbers, so that tables are short.
type hex = []byte

// header is the example's header: its check sum is 66DF.
func header() []byte {
	return hex{0x45, 0, 0, 0x1C, 0, 0, 0, 0, 0x40, 1, 0, 0, 10, 0, 0, 1, 10, 0, 0, 2}
}

// four is an address of four bytes.
func four(b ...byte) api.Addr {
	var a api.Addr
	copy(a.B[:], b)
	return a
}

// six is an address of sixteen bytes.
func six(b ...byte) api.Addr {
	a := four(b...)
	a.Six = true
	return a
}

// chanceAddr is an address of four or of sixteen bytes, all sixteen by chance: also those that do not count.
func chanceAddr(chance *rand.Rand) api.Addr {
	var a api.Addr
	chance.Read(a.B[:])
	a.Six = chance.Intn(2) == 0
	return a
}

// sum is the sum, reckoned otherwise: what is added again below leaves the rest by 65535, and FFFF where that is 0 of what is not.
func sum(parts ...[]byte) uint16 {
	all := new(big.Int)
	for _, p := range parts {
		whole := append(slices.Clone(p), make([]byte, len(p)%2)...)
		for i := 0; i < len(whole); i += 2 {
			all.Add(all, big.NewInt(int64(binary.BigEndian.Uint16(whole[i:]))))
		}
	}
	if all.Sign() == 0 {
		return 0
	}
	rest := all.Mod(all, big.NewInt(65535)).Int64()
	if rest == 0 {
		return 65535
	}
	return uint16(rest)
}

// pseudo is the pseudo header, reckoned otherwise.
func pseudo(src, dst api.Addr, proto uint8, size int) []byte {
	var out bytes.Buffer
	low := new(big.Int).And(big.NewInt(int64(size)), big.NewInt(math.MaxUint32)).Uint64()
	if !src.Six && !dst.Six {
		out.Write(src.B[:4])
		out.Write(dst.B[:4])
		out.Write([]byte{0, proto})
		binary.Write(&out, binary.BigEndian, uint16(low%65536))
		return out.Bytes()
	}
	out.Write(src.B[:])
	out.Write(dst.B[:])
	binary.Write(&out, binary.BigEndian, uint32(low))
	out.Write([]byte{0, 0, 0, proto})
	return out.Bytes()
}

// one tells whether two check sums are one: 0 and FFFF are.
func one(a, b uint16) bool { return a == b || a^b == 0xFFFF && (a == 0 || b == 0) }

// edges are numbers of 16 bits at which something turns, and some between.
func edges() []uint16 {
	return []uint16{0, 1, 2, 0x7F, 0x80, 0xFF, 0x100, 0x1234, 0x5555, 0x66DF, 0x7FFF, 0x8000, 0x8001, 0xAAAA, 0xFF00, 0xFFFE, 0xFFFF}
}

// P3.1: the sum, and the check sum, of no parts, of parts of no bytes, of even and odd ones.
func TestSum(t *testing.T) {
	for _, c := range []struct {
		parts [][]byte
		want  uint16
	}{
		// Nothing.
		{nil, 0}, {[][]byte{}, 0}, {[][]byte{nil}, 0}, {[][]byte{{}}, 0}, {[][]byte{nil, {}, nil}, 0},
		{[][]byte{{0}}, 0}, {[][]byte{{0, 0}, {0}}, 0},
		// The higher byte first; an odd last one has its 0 behind.
		{[][]byte{{1, 2}}, 0x0102}, {[][]byte{{1, 2, 3, 4}}, 0x0406}, {[][]byte{{7}}, 0x0700}, {[][]byte{{1, 2, 3}}, 0x0402}, {[][]byte{{0, 1, 0}}, 1},
		// Each part by itself.
		{[][]byte{{1}, {2}}, 0x0300}, {[][]byte{{1}, {2, 3}}, 0x0303}, {[][]byte{{1, 2, 3}, {4}}, 0x0802}, {[][]byte{{1}, nil, {2}, {}, {3}}, 0x0600},
		{[][]byte{{1, 2}, nil, {3, 4}}, 0x0406}, {[][]byte{{}, {1, 2}}, 0x0102},
		// What passes 16 bits is added below: once, and twice.
		{[][]byte{{0xFF, 0xFF}}, 0xFFFF}, {[][]byte{{0xFF, 0xFF, 0, 1}}, 1}, {[][]byte{{0xFF, 0xFF}, {0, 1}}, 1}, {[][]byte{{0xFF}, {1}}, 1},
		{[][]byte{{0xFF, 0xFF, 0xFF, 0xFF}}, 0xFFFF}, {[][]byte{{0xFF, 0xFF, 0xFF, 0xFF, 0, 1}}, 1}, {[][]byte{{0xFF, 0xFF}, {0xFF, 0xFF}, {0, 1}}, 1},
		{[][]byte{{0x80, 0, 0x80, 0}}, 1}, {[][]byte{{0x80, 0}, {0x80, 0}, {0xFF, 0xFF}}, 1}, {[][]byte{{0xFF, 0xFE, 0, 1}}, 0xFFFF},
		// Sums of known texts.
		{[][]byte{{0, 1, 0xF2, 3, 0xF4, 0xF5, 0xF6, 0xF7}}, 0xDDF2}, {[][]byte{header()}, 0x9920},
	} {
		if got := Sum(c.parts...); got != c.want {
			t.Errorf("Sum(%x) = %04X, not %04X", c.parts, got, c.want)
		}
		if got := Check(c.parts...); got != 0xFFFF-c.want {
			t.Errorf("Check(%x) = %04X, not %04X", c.parts, got, 0xFFFF-c.want)
		}
	}
	if Sum() != 0 || Check() != 0xFFFF {
		t.Error("of no parts")
	}
}

// P3.1: the chapter's example.
func TestExample(t *testing.T) {
	if got := Check(header()); got != 0x66DF {
		t.Errorf("%04X", got)
	}
}

// P3.1: sums that pass 16 bits, and 32, many times over.
func TestSumOfMany(t *testing.T) {
	for _, n := range []int{1, 2, 3, 255, 65535, 65536, 65537, 65538, 1 << 18, 1<<18 + 1} {
		full := bytes.Repeat([]byte{0xFF}, 2*n)
		if got := Sum(full); got != 0xFFFF {
			t.Errorf("%d times FFFF: %04X", n, got)
		}
		for _, more := range []hex{{0, 1}, {0x12, 0x34}, {0xFF, 0xFE}, {5}} {
			want := sum(more)
			if got := Sum(append(slices.Clone(full), more...)); got != want {
				t.Errorf("%d times FFFF, and %x: %04X, not %04X", n, more, got, want)
			}
			if got := Sum(full, more, full); got != want {
				t.Errorf("%d times FFFF twice, and %x in a part: %04X, not %04X", n, more, got, want)
			}
		}
		if got, want := Sum(append(slices.Clone(full), 0xFF)), sum(hex{0xFF}); got != want {
			t.Errorf("%d bytes FF: %04X, not %04X", 2*n+1, got, want)
		}
	}
	// As many parts.
	parts := slices.Repeat([][]byte{{0xFF, 0xFF}, {0xFF}}, 70000)
	if got, want := Sum(parts...), sum(parts...); got != want || Check(parts...) != ^want {
		t.Errorf("%d parts: %04X, not %04X", len(parts), got, want)
	}
}

// P3.1, R3: by chance, cut anywhere, held against the rest by 65535; the same again.
func TestSumByChance(t *testing.T) {
	chance := rand.New(rand.NewSource(3))
	for range 3000 {
		parts := make([][]byte, chance.Intn(6))
		for i := range parts {
			parts[i] = checks.Bytes(chance.Intn, chance.Intn(40))
		}
		want := sum(parts...)
		for range 2 {
			if got := Sum(parts...); got != want {
				t.Fatalf("Sum(%x) = %04X, not %04X", parts, got, want)
			}
			if got := Check(parts...); got != ^want {
				t.Fatalf("Check(%x) = %04X, not %04X", parts, got, ^want)
			}
		}
	}
}

// P3.1: each number of 16 bits alone, and with FFFF.
func TestSumOfEach(t *testing.T) {
	for n := range 65536 {
		b := hex{byte(n >> 8), byte(n)}
		if got := Sum(b); int(got) != n {
			t.Fatalf("%04X: %04X", n, got)
		}
		want := n
		if n == 0 {
			want = 65535
		}
		if got := Sum(b, hex{0xFF, 0xFF}); int(got) != want {
			t.Fatalf("%04X and FFFF: %04X", n, got)
		}
	}
}

// R4: the parts stay as they were, also behind their ends; what stands there does not count.
func TestPartsStay(t *testing.T) {
	b := hex{1, 2, 3, 4, 5, 6, 7, 8}
	was := slices.Clone(b)
	parts := [][]byte{b[:1], b[2:5], b[5:5], b[6:7]}
	if got := Sum(parts...); got != 0x0100+0x0304+0x0500+0x0700 {
		t.Errorf("%04X", got)
	}
	if got := Check(parts...); got != ^uint16(0x1004) {
		t.Errorf("%04X", got)
	}
	a, z := four(10, 0, 0, 1), six(1)
	Load(a, a, 6, b[:3])
	Load(a, z, 6, b[:3])
	Good(a, a, 6, b[:3])
	Good(z, z, 6, b[:3])
	if !bytes.Equal(b, was) || len(parts) != 4 || len(parts[0]) != 1 {
		t.Fatal(b, parts)
	}
}

// P3.2: pseudo headers of four bytes, of sixteen, and of one of each.
func TestPseudo(t *testing.T) {
	long := six(0x20, 1, 0xD, 0xB8, 5, 6, 7, 8, 9, 10, 11, 12, 13, 14, 15, 16)
	odd := four(0x20, 1, 0xD, 0xB8, 5, 6, 7, 8, 9, 10, 11, 12, 13, 14, 15, 16) // further bytes, which do not count of four
	for _, c := range []struct {
		src, dst api.Addr
		proto    uint8
		size     int
		want     []byte
	}{
		{four(10, 0, 0, 1), four(10, 0, 0, 2), 6, 20, hex{10, 0, 0, 1, 10, 0, 0, 2, 0, 6, 0, 20}},
		{four(1, 2, 3, 4), four(255, 254, 253, 252), 255, 0x1234, hex{1, 2, 3, 4, 255, 254, 253, 252, 0, 255, 0x12, 0x34}},
		{four(), four(), 0, 0, make([]byte, 12)},
		{odd, four(1), 17, 8, hex{0x20, 1, 0xD, 0xB8, 1, 0, 0, 0, 0, 17, 0, 8}},
		{four(1), odd, 17, 8, hex{1, 0, 0, 0, 0x20, 1, 0xD, 0xB8, 0, 17, 0, 8}},
		{six(), six(), 0, 0, make([]byte, 40)},
		{long, six(1), 6, 0x1234, append(append(slices.Clone(long.B[:]), 1, 0, 0, 0, 0, 0, 0, 0, 0, 0, 0, 0, 0, 0, 0, 0), 0, 0, 0x12, 0x34, 0, 0, 0, 6)},
		// One of each: all sixteen bytes of both, whatever they are.
		{four(9, 8, 7, 6), long, 58, 3, append(append(hex{9, 8, 7, 6, 0, 0, 0, 0, 0, 0, 0, 0, 0, 0, 0, 0}, long.B[:]...), 0, 0, 0, 3, 0, 0, 0, 58)},
		{long, four(9, 8, 7, 6), 58, 3, append(append(slices.Clone(long.B[:]), 9, 8, 7, 6, 0, 0, 0, 0, 0, 0, 0, 0, 0, 0, 0, 0), 0, 0, 0, 3, 0, 0, 0, 58)},
		{odd, long, 58, 3, append(append(slices.Clone(odd.B[:]), long.B[:]...), 0, 0, 0, 3, 0, 0, 0, 58)},
		{long, odd, 58, 3, append(append(slices.Clone(long.B[:]), odd.B[:]...), 0, 0, 0, 3, 0, 0, 0, 58)},
	} {
		if got := Pseudo(c.src, c.dst, c.proto, c.size); !bytes.Equal(got, c.want) {
			t.Errorf("Pseudo(%v, %v, %d, %d) = %x, not %x", c.src, c.dst, c.proto, c.size, got, c.want)
		}
	}
}

// P3.2: sizes below 0 and too great: their lowest 16, or 32 bits.
func TestPseudoSizes(t *testing.T) {
	a, z := four(1, 2, 3, 4), six(5, 6, 7, 8)
	for _, c := range []struct {
		size  int
		small []byte
		great []byte
	}{
		{0, hex{0, 0}, hex{0, 0, 0, 0}}, {1, hex{0, 1}, hex{0, 0, 0, 1}}, {255, hex{0, 255}, hex{0, 0, 0, 255}}, {256, hex{1, 0}, hex{0, 0, 1, 0}},
		{65535, hex{255, 255}, hex{0, 0, 255, 255}}, {65536, hex{0, 0}, hex{0, 1, 0, 0}}, {65537, hex{0, 1}, hex{0, 1, 0, 1}},
		{0x01020304, hex{3, 4}, hex{1, 2, 3, 4}}, {math.MaxInt32, hex{255, 255}, hex{127, 255, 255, 255}}, {math.MaxUint32, hex{255, 255}, hex{255, 255, 255, 255}},
		{1 << 32, hex{0, 0}, hex{0, 0, 0, 0}}, {1<<32 + 5, hex{0, 5}, hex{0, 0, 0, 5}}, {math.MaxInt, hex{255, 255}, hex{255, 255, 255, 255}},
		{-1, hex{255, 255}, hex{255, 255, 255, 255}}, {-2, hex{255, 254}, hex{255, 255, 255, 254}}, {-65535, hex{0, 1}, hex{255, 255, 0, 1}}, {-65536, hex{0, 0}, hex{255, 255, 0, 0}},
		{-65537, hex{255, 255}, hex{255, 254, 255, 255}}, {math.MinInt32, hex{0, 0}, hex{128, 0, 0, 0}}, {-1<<32 + 7, hex{0, 7}, hex{0, 0, 0, 7}}, {math.MinInt, hex{0, 0}, hex{0, 0, 0, 0}},
	} {
		got := Pseudo(a, a, 6, c.size)
		if len(got) != 12 || !bytes.Equal(got[10:], c.small) || !bytes.Equal(got[:10], hex{1, 2, 3, 4, 1, 2, 3, 4, 0, 6}) {
			t.Errorf("size %d, of four: %x, not %x at its end", c.size, got, c.small)
		}
		for _, ends := range [][2]api.Addr{{z, z}, {a, z}, {z, a}} {
			got := Pseudo(ends[0], ends[1], 6, c.size)
			if len(got) != 40 || !bytes.Equal(got[32:36], c.great) || !bytes.Equal(got[36:], hex{0, 0, 0, 6}) {
				t.Errorf("size %d, of sixteen: %x, not %x in it", c.size, got, c.great)
			}
		}
	}
}

// P3.2, R3: pseudo headers by chance, held against another reckoning.
func TestPseudoByChance(t *testing.T) {
	chance := rand.New(rand.NewSource(32))
	for range 3000 {
		src, dst, proto := chanceAddr(chance), chanceAddr(chance), uint8(chance.Intn(256))
		size := int(chance.Uint64()) >> chance.Intn(64)
		if got, want := Pseudo(src, dst, proto, size), pseudo(src, dst, proto, size); !bytes.Equal(got, want) {
			t.Fatalf("Pseudo(%v, %v, %d, %d) = %x, not %x", src, dst, proto, size, got, want)
		}
	}
}

// R4: what Pseudo answers is the caller's.
func TestPseudoIsNew(t *testing.T) {
	a, z := four(1, 2, 3, 4), six(5, 6, 7, 8)
	for _, ends := range [][2]api.Addr{{a, a}, {a, z}, {z, a}, {z, z}} {
		want := pseudo(ends[0], ends[1], 6, 77)
		got := Pseudo(ends[0], ends[1], 6, 77)
		_ = append(got, 1, 2, 3, 4)
		for i := range got {
			got[i] = 99
		}
		if again := Pseudo(ends[0], ends[1], 6, 77); !bytes.Equal(again, want) {
			t.Errorf("%x, not %x", again, want)
		}
	}
}

// P3.2: check sums of loads, and whether they are good, of known ones.
func TestLoad(t *testing.T) {
	a, b := four(10, 0, 0, 1), four(10, 0, 0, 2)
	for _, c := range []struct {
		src, dst api.Addr
		proto    uint8
		load     []byte
		want     uint16
	}{
		// Nothing but 0: its sum is 0, not FFFF.
		{four(), four(), 0, nil, 0xFFFF}, {six(), six(), 0, hex{}, 0xFFFF}, {four(), six(), 0, nil, 0xFFFF},
		// 0A00 + 1 + 0A00 + 2 + 6 is 1409; the size and the load come to it.
		{a, b, 6, nil, 0xEBF6}, {a, b, 6, hex{0xEB, 0xF4}, 0}, {a, b, 6, hex{0x01}, 0xEAF5}, {a, b, 6, hex{1, 2, 3}, 0xE7F1},
		// Of sixteen: 2001 + 0DB8 + 1, twice, + 3A + 4 + 8000 is DBB2.
		{six(0x20, 1, 0xD, 0xB8, 0, 0, 0, 0, 0, 0, 0, 0, 0, 0, 0, 1), six(0x20, 1, 0xD, 0xB8, 0, 0, 0, 0, 0, 0, 0, 0, 0, 0, 0, 1), 58, hex{0x80, 0, 0, 0}, 0x244D},
	} {
		if got := Load(c.src, c.dst, c.proto, c.load); got != c.want {
			t.Errorf("Load(%v, %v, %d, %x) = %04X, not %04X", c.src, c.dst, c.proto, c.load, got, c.want)
		}
		if got := Good(c.src, c.dst, c.proto, c.load); got != (c.want == 0) {
			t.Errorf("Good(%v, %v, %d, %x) is %v", c.src, c.dst, c.proto, c.load, got)
		}
	}
}

// P3.2: good is what sums to FFFF: 0 does not, and nothing else.
func TestGoodIsFFFF(t *testing.T) {
	a := four()
	good := 0
	for n := range 65536 {
		load := hex{byte(n >> 8), byte(n)}
		if got := Good(a, a, 0, load); got != (n == 0xFFFD) { // the size is 2
			t.Fatalf("%04X: %v", n, got)
		} else if got {
			good++
		}
	}
	if good != 1 {
		t.Error(good)
	}
	if Good(a, a, 0, nil) || Good(six(), six(), 0, nil) || Good(six(), a, 0, hex{}) {
		t.Error("0 is good")
	}
	if !Good(four(0xFF, 0xFF), a, 0, nil) || !Good(six(0, 0, 0, 0, 0xFF, 0xFF), six(), 0, nil) || Good(four(0, 0, 0, 0, 0xFF, 0xFF), a, 0, nil) {
		t.Error("FFFF")
	}
}

// P3.2, R3: by chance, and loads of more than 65535 bytes, whose size counts modulo 2^16 of four, whole of sixteen.
func TestLoadByChance(t *testing.T) {
	chance := rand.New(rand.NewSource(33))
	sizes := []int{65534, 65535, 65536, 65537, 70001, 131072, 200000}
	for n := range 2000 {
		size := chance.Intn(100)
		if n < 10*len(sizes) {
			size = sizes[n%len(sizes)]
		}
		src, dst, proto, load := chanceAddr(chance), chanceAddr(chance), uint8(chance.Intn(256)), checks.Bytes(chance.Intn, size)
		want := sum(pseudo(src, dst, proto, size), load)
		if got := Load(src, dst, proto, load); got != ^want {
			t.Fatalf("of %d bytes: %04X, not %04X", size, got, ^want)
		}
		if got := Good(src, dst, proto, load); got != (want == 0xFFFF) {
			t.Fatalf("of %d bytes: good is %v, the sum %04X", size, got, want)
		}
	}
}

// P3.4: a load into which its check sum is laid, where 0 stood, is good; with one bit turned it is not.
func TestLaidIsGood(t *testing.T) {
	chance := rand.New(rand.NewSource(34))
	for n := range 400 {
		src, dst, proto := chanceAddr(chance), chanceAddr(chance), uint8(chance.Intn(256))
		load := checks.Bytes(chance.Intn, 2+n%41)
		if n%10 == 0 { // nothing but 0
			src, dst, proto, load = four(), four(), 0, make([]byte, len(load))
		}
		at := 2 * chance.Intn(len(load)/2)
		load[at], load[at+1] = 0, 0
		binary.BigEndian.PutUint16(load[at:], Load(src, dst, proto, load))
		if !Good(src, dst, proto, load) {
			t.Fatalf("%v, %v, %d, %x, laid at %d: not good", src, dst, proto, load, at)
		}
		for bit := range 8 * len(load) {
			load[bit/8] ^= 1 << (bit % 8)
			if Good(src, dst, proto, load) {
				t.Fatalf("%x: good with bit %d turned", load, bit)
			}
			load[bit/8] ^= 1 << (bit % 8)
		}
		for bit := range 8 {
			if Good(src, dst, proto^1<<bit, load) {
				t.Fatalf("good with bit %d of the protocol turned", bit)
			}
		}
		for bit := range 128 {
			counts := src.Six || dst.Six || bit < 32
			other := src
			other.B[bit/8] ^= 1 << (bit % 8)
			if Good(other, dst, proto, load) == counts {
				t.Fatalf("bit %d of the source turned: good is not %v", bit, !counts)
			}
			other = dst
			other.B[bit/8] ^= 1 << (bit % 8)
			if Good(src, other, proto, load) == counts {
				t.Fatalf("bit %d of the destination turned: good is not %v", bit, !counts)
			}
		}
	}
}

// P3.4: large loads too, of more bytes than their size tells.
func TestLargeIsGood(t *testing.T) {
	chance := rand.New(rand.NewSource(35))
	for _, size := range []int{65534, 65535, 65536, 65537, 131073} {
		for _, ends := range [][2]api.Addr{{four(1, 2, 3, 4), four(5, 6, 7, 8)}, {six(1), six(2)}, {four(), four()}} {
			load := checks.Bytes(chance.Intn, size)
			load[16], load[17] = 0, 0
			binary.BigEndian.PutUint16(load[16:], Load(ends[0], ends[1], 6, load))
			if !Good(ends[0], ends[1], 6, load) {
				t.Errorf("%d bytes: not good", size)
			}
			load[size-1] ^= 4
			if Good(ends[0], ends[1], 6, load) {
				t.Errorf("%d bytes, one bit turned: good", size)
			}
		}
	}
}

// P3.4: 0 and FFFF, laid where the check sum stands, are told apart by nothing.
func TestZeroAndFull(t *testing.T) {
	h := header()
	binary.BigEndian.PutUint16(h[4:], 0x66DF) // now the rest sums to FFFF
	for _, laid := range []uint16{0, 0xFFFF} {
		binary.BigEndian.PutUint16(h[10:], laid)
		if Sum(h) != 0xFFFF || Check(h) != 0 {
			t.Errorf("%04X laid: %04X", laid, Sum(h))
		}
	}
	binary.BigEndian.PutUint16(h[10:], 1)
	if Sum(h) == 0xFFFF {
		t.Error("1 laid: FFFF")
	}
	a, b := four(10, 0, 0, 1), four(10, 0, 0, 2)
	if Load(a, b, 6, hex{0xEB, 0xF2, 0, 0}) != 0 || !Good(a, b, 6, hex{0xEB, 0xF2, 0, 0}) || !Good(a, b, 6, hex{0xEB, 0xF2, 0xFF, 0xFF}) || Good(a, b, 6, hex{0xEB, 0xF2, 0, 1}) {
		t.Errorf("%04X", Load(a, b, 6, hex{0xEB, 0xF2, 0, 0}))
	}
}

// P3.5: numbers of 16 bits may stand in any order, and in any parts.
func TestMixedUp(t *testing.T) {
	chance := rand.New(rand.NewSource(36))
	for range 500 {
		nums := make([][]byte, 1+chance.Intn(20))
		for i := range nums {
			nums[i] = checks.Bytes(chance.Intn, 2)
		}
		want, check := Sum(nums...), Check(nums...)
		chance.Shuffle(len(nums), func(i, j int) { nums[i], nums[j] = nums[j], nums[i] })
		cut := chance.Intn(len(nums) + 1)
		first, last := slices.Concat(nums[:cut]...), slices.Concat(nums[cut:]...)
		for _, parts := range [][][]byte{nums, {slices.Concat(nums...)}, {first, last}, {last, first}, {last, nil, first}} {
			if got := Sum(parts...); got != want || Check(parts...) != check {
				t.Fatalf("%x: %04X, not %04X", parts, got, want)
			}
		}
	}
	// The bytes of a number may not be mixed up.
	if Sum(hex{1, 2}) == Sum(hex{2, 1}) {
		t.Error("bytes mixed up")
	}
}

// P3.3: check sums of what was turned, with the numbers of RFC 1624, 4, and at all edges.
func TestTurn(t *testing.T) {
	for _, c := range [][4]uint16{
		{0xDD2F, 0x5555, 0x3285, 0x0000}, // RFC 1624: not FFFF
		{0, 0, 0, 0}, {0xFFFF, 0, 0, 0}, {0xFFFF, 0xFFFF, 0xFFFF, 0}, {0, 0xFFFF, 0xFFFF, 0},
		{0xFFFF, 0xFFFF, 0, 0xFFFF}, {0, 0xFFFF, 0, 0}, {0, 0, 0xFFFF, 0}, {0xFFFF, 0, 0xFFFF, 0},
		{0x1234, 0x5555, 0x5555, 0x1234}, {0xFFFF, 0x5555, 0x5555, 0}, {0, 0x5555, 0x5555, 0},
		{0xFFFF, 0, 1, 0xFFFE}, {0xFFFE, 1, 0, 0}, {0, 0, 1, 0xFFFE}, {0x66DF, 0x4001, 0x3F01, 0x67DF},
	} {
		if got := Turn(c[0], c[1], c[2]); got != c[3] {
			t.Errorf("Turn(%04X, %04X, %04X) = %04X, not %04X", c[0], c[1], c[2], got, c[3])
		}
	}
	for _, check := range edges() {
		for _, was := range edges() {
			for _, is := range edges() {
				want := ^sum(binary.BigEndian.AppendUint16(nil, ^check), binary.BigEndian.AppendUint16(nil, ^was), binary.BigEndian.AppendUint16(nil, is))
				if got := Turn(check, was, is); got != want {
					t.Errorf("Turn(%04X, %04X, %04X) = %04X, not %04X", check, was, is, got, want)
				}
			}
		}
	}
}

// P3.6: what is turned is reckoned as what is reckoned anew, but that 0 and FFFF are one; there and back, too.
func TestTurnIsAnew(t *testing.T) {
	chance := rand.New(rand.NewSource(37))
	apart := 0
	for n := range 20000 {
		b := checks.Bytes(chance.Intn, 2*(1+chance.Intn(6)))
		if n%4 == 0 { // few bytes but 0, so that 0 and FFFF come often
			clear(b)
		}
		at := 2 * chance.Intn(len(b)/2)
		if n%3 == 0 {
			binary.BigEndian.PutUint16(b[at:], edges()[chance.Intn(len(edges()))])
		}
		was := binary.BigEndian.Uint16(b[at:])
		check := Check(b)
		is := edges()[chance.Intn(len(edges()))]
		if n%2 == 0 {
			is = uint16(chance.Intn(65536))
		}
		binary.BigEndian.PutUint16(b[at:], is)
		anew, turned := Check(b), Turn(check, was, is)
		if !one(anew, turned) {
			t.Fatalf("%x, of %04X turned at %d: %04X, anew %04X", b, was, at, turned, anew)
		}
		if anew != turned {
			apart++
		}
		if back := Turn(turned, is, was); !one(back, check) {
			t.Fatalf("there and back: %04X, not %04X", back, check)
		}
	}
	if apart == 0 {
		t.Error("0 and FFFF never came")
	}
}

// P3.6: a step less of a header's hops, as one who hands it on reckons it.
func TestTurnOfAHeader(t *testing.T) {
	h := header()
	check := Check(h)
	for hops := 0x40; hops > 0; hops-- {
		was := binary.BigEndian.Uint16(h[8:])
		h[8] = byte(hops - 1)
		check = Turn(check, was, binary.BigEndian.Uint16(h[8:]))
		if anew := Check(h); !one(check, anew) {
			t.Fatalf("%d hops: %04X, anew %04X", hops-1, check, anew)
		}
	}
}
