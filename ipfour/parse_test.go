package ipfour

import (
	"bytes"
	"encoding/binary"
	"math/rand"
	"slices"
	"testing"

	"downhaul/addr"
	"downhaul/api"
	"downhaul/checks"
)

// wanted is the packet of bytes by the chapter's words.
func wanted(b []byte) (api.Packet, api.Errno) {
	if len(b) < 20 {
		return api.Packet{}, api.ErrEnd
	}
	if b[0]/16 != 4 {
		return api.Packet{}, api.ErrKind
	}
	size := int(b[0]%16) * 4
	all := int(binary.BigEndian.Uint16(b[2:]))
	switch {
	case size < 20:
		return api.Packet{}, api.ErrForm
	case len(b) < size:
		return api.Packet{}, api.ErrEnd
	case checks.Sum(b[:size]) != 0xFFFF:
		return api.Packet{}, api.ErrSum
	case all < size:
		return api.Packet{}, api.ErrForm
	case len(b) < all:
		return api.Packet{}, api.ErrEnd
	}
	cut := binary.BigEndian.Uint16(b[6:])
	p := api.Packet{
		Src: addr.Four(b[12], b[13], b[14], b[15]), Dst: addr.Four(b[16], b[17], b[18], b[19]), Proto: b[9], Hops: b[8],
		Id: uint32(b[4])*256 + uint32(b[5]), Whole: cut&0x4000 != 0, More: cut&0x2000 != 0, Off: int(cut%0x2000) * 8, Load: b[size:all],
	}
	if cut >= 0x8000 || !may(p) {
		return api.Packet{}, api.ErrForm
	}
	return p, api.OK
}

// parsed is the packet of bytes that must be one.
func parsed(t *testing.T, b []byte) api.Packet {
	t.Helper()
	p, e := Parse(b)
	if e != api.OK {
		t.Fatalf("Parse(%x, %d bytes): %v", b[:min(len(b), 60)], len(b), e)
	}
	return p
}

// refuse holds that bytes are told an error of, and nothing besides.
func refuse(t *testing.T, what string, b []byte, want api.Errno) {
	t.Helper()
	if p, e := Parse(b); e != want || !checks.Nothing(p) {
		t.Errorf("%s: Parse(%x, %d bytes) = %v, %v, not %v", what, b[:min(len(b), 60)], len(b), short(p), e, want)
	}
}

// P10.2, P10.4: what is laid is parsed, whatever stands behind.
func TestLaidIsParsed(t *testing.T) {
	chance := rand.New(rand.NewSource(103))
	for _, p := range tried(chance, 2000) {
		b := laid(t, p)
		if got := parsed(t, b); !checks.Alike(got, p) || !Same(got, p) {
			t.Fatalf("%s is parsed as %s", short(p), short(got))
		}
		for _, behind := range [][]byte{{0}, {255}, make([]byte, 7), b, checks.Bytes(chance.Intn, 1+chance.Intn(100)), bytes.Repeat([]byte{0x45}, 40)} {
			if got := parsed(t, slices.Concat(b, behind)); !checks.Alike(got, p) {
				t.Fatalf("%s, with %x behind, is parsed as %s", short(p), behind[:min(len(behind), 40)], short(got))
			}
		}
	}
	p := sized(100)
	if got := parsed(t, append(laid(t, p), make([]byte, 1<<20)...)); !checks.Alike(got, p) {
		t.Error(short(got))
	}
}

// P10.2: options are gone past, in headers of each length, and so is the second byte; what stands behind the length is not told.
func TestOptions(t *testing.T) {
	chance := rand.New(rand.NewSource(104))
	for words := range 11 {
		for _, n := range []int{0, 1, 8, 33, 65535 - 60} {
			for range 10 {
				options, load := checks.Bytes(chance.Intn, 4*words), checks.Bytes(chance.Intn, n)
				h := headerOf(n, options...)
				h.service = byte(chance.Intn(256))
				b := h.bytes(load...)
				if len(b) != 20+4*words+n || int(b[0]) != 0x45+words {
					t.Fatal(len(b), b[0])
				}
				behind := checks.Bytes(chance.Intn, chance.Intn(30))
				for _, text := range [][]byte{b, slices.Concat(b, behind)} {
					if got := parsed(t, text); !checks.Alike(got, ordinary(load...)) {
						t.Fatalf("%x.. is parsed as %s", text[:20], short(got))
					}
				}
			}
		}
	}
	// As many bytes as there may be at all: the header, its options and the load together.
	for words := range 11 {
		load := make([]byte, 65515-4*words)
		if got := parsed(t, headerOf(len(load), make([]byte, 4*words)...).bytes(load...)); !checks.Alike(got, ordinary(load...)) {
			t.Errorf("%d: %s", words, short(got))
		}
		// What counts for the end is the load alone, without the options.
		for _, off := range []int{4 * words / 8 * 8, 4*words/8*8 + 8} {
			h := headerOf(len(load), make([]byte, 4*words)...)
			h.cut = uint16(off / 8)
			b := h.bytes(load...)
			if off+len(load) > 65515 {
				refuse(t, "an end behind 65515", b, api.ErrForm)
			} else if got := parsed(t, b); !checks.Alike(got, checks.At(off, ordinary(load...))) {
				t.Errorf("%d, %d: %s", words, off, short(got))
			}
		}
	}
}

// P10.2: a length of all that is just the header's is one of a packet of no load, whatever is behind.
func TestJustTheHeader(t *testing.T) {
	for words := range 11 {
		options := bytes.Repeat([]byte{1}, 4*words)
		b := headerOf(0, options...).bytes()
		for _, behind := range []int{0, 1, 100} {
			if got := parsed(t, slices.Concat(b, make([]byte, behind))); !checks.Alike(got, ordinary()) || len(got.Load) != 0 {
				t.Errorf("%d words of options: %s", words, short(got))
			}
		}
	}
}

// P10.2: each of the errors, by itself.
func TestErrors(t *testing.T) {
	good := laid(t, sized(40))
	for n := range 20 {
		refuse(t, "fewer than 20 bytes", good[:n], api.ErrEnd)
		refuse(t, "fewer than 20 bytes", make([]byte, n), api.ErrEnd)
	}
	refuse(t, "no bytes", nil, api.ErrEnd)
	refuse(t, "no bytes", []byte{}, api.ErrEnd)
	refuse(t, "no bytes, with room", make([]byte, 0, 100), api.ErrEnd)
	for upper := range 16 {
		for lower := range 16 {
			h := headerOf(40)
			h.first = byte(16*upper + lower)
			b := h.bytes(make([]byte, 40)...)
			switch {
			case upper != 4:
				refuse(t, "the upper half", b, api.ErrKind)
			case lower < 5:
				refuse(t, "the lower half", b, api.ErrForm)
			}
		}
	}
	for words := 1; words <= 10; words++ {
		b := headerOf(0, make([]byte, 4*words)...).bytes()
		for n := 20; n < len(b); n++ {
			refuse(t, "fewer bytes than the header", b[:n], api.ErrEnd)
		}
		for all := range len(b) {
			h := headerOf(0, make([]byte, 4*words)...)
			h.all = all
			refuse(t, "a length of all below the header's", h.bytes(make([]byte, 9)...), api.ErrForm)
		}
	}
	for n := 20; n < len(good); n++ {
		refuse(t, "fewer bytes than the length of all", good[:n], api.ErrEnd)
	}
	for _, all := range []int{61, 62, 100, 256, 316, 1 << 15, 65535} {
		h := headerOf(0)
		h.all = all
		refuse(t, "a length of all above what there is", h.bytes(make([]byte, 40)...), api.ErrEnd)
	}
	for sum := range 1 << 16 {
		b := slices.Clone(good)
		binary.BigEndian.PutUint16(b[10:], uint16(sum))
		if !bytes.Equal(b, good) {
			refuse(t, "a check sum", b, api.ErrSum)
		}
	}
}

// P10.2: packets that may not be, as bytes: ErrForm.
func TestBytesThatMayNotBe(t *testing.T) {
	for _, c := range []struct {
		what string
		cut  uint16
		n    int
	}{
		{"the highest bit", 0x8000, 0}, {"the highest bit", 0x8000, 8}, {"the highest bit, Whole", 0xC000, 8}, {"the highest bit, More", 0xA000, 8}, {"the highest bit, an Off", 0x8001, 8}, {"all bits", 0xFFFF, 0},
		{"Whole and More", 0x6000, 0}, {"Whole and More", 0x6000, 8}, {"Whole and an Off", 0x4001, 0}, {"Whole and an Off", 0x4001, 8}, {"Whole and the greatest Off", 0x5FFD, 0}, {"Whole, More and an Off", 0x6001, 8},
		{"More, and one byte", 0x2000, 1}, {"More, and 7 bytes", 0x2000, 7}, {"More, and 9 bytes", 0x2000, 9}, {"More, 12 bytes, an Off", 0x2001, 12}, {"More, 65515 bytes", 0x2000, 65515},
		{"an end of 65516", 0x1FFD, 4}, {"an end of 65520", 0x1FFD, 8}, {"an end of 65520, More", 0x3FFD, 8}, {"an end of 65516", 1, 65508}, {"an end of 65523", 1, 65515}, {"an end of 65536", 0x1FFC, 32},
		{"an end of 65520, of no load", 0x1FFE, 0}, {"an end of 65520, More", 0x3FFE, 0}, {"the greatest Off", 0x1FFF, 0}, {"the greatest Off, More", 0x3FFF, 0}, {"the greatest end", 0x1FFF, 65515}, {"the greatest end, More", 0x3FFF, 65512},
	} {
		h := headerOf(c.n)
		h.cut = c.cut
		refuse(t, c.what, h.bytes(make([]byte, c.n)...), api.ErrForm)
		if c.n <= 65515-40 {
			h = headerOf(c.n, make([]byte, 40)...)
			h.cut = c.cut
			refuse(t, c.what+", with options", h.bytes(make([]byte, c.n+3)...), api.ErrForm)
		}
	}
	for _, c := range []struct {
		cut  uint16
		n    int
		want api.Packet
	}{
		{0x4000, 1, checks.Wholly(sized(1))}, {0x4000, 65515, checks.Wholly(sized(65515))}, {0, 1, sized(1)}, {0x2000, 0, checks.Followed(sized(0))}, {0x2000, 16, checks.Followed(sized(16))},
		{1, 1, checks.At(8, sized(1))}, {0x2001, 8, checks.At(8, checks.Followed(sized(8)))}, {1, 65507, checks.At(8, sized(65507))}, {0x1FFD, 3, checks.At(65512, sized(3))}, {0x3FFD, 0, checks.At(65512, checks.Followed(sized(0)))}, {0x3FFC, 8, checks.At(65504, checks.Followed(sized(8)))}, {0x1FFC, 11, checks.At(65504, sized(11))},
	} {
		h := headerOf(c.n)
		h.cut = c.cut
		if got := parsed(t, h.bytes(checks.Rising(c.n)...)); !checks.Alike(got, c.want) {
			t.Errorf("%x, %d: %s", c.cut, c.n, short(got))
		}
	}
}

// P10.2: where more than one error holds, the first that the chapter lists is told.
func TestFirstError(t *testing.T) {
	misfit := func(b []byte) []byte {
		b[11] ^= 1
		return b
	}
	made := func(first byte, all int, cut uint16, n int) []byte {
		h := headerOf(0)
		h.first, h.all, h.cut = first, all, cut
		return h.bytes(make([]byte, n)...)
	}
	for _, c := range []struct {
		what string
		b    []byte
		want api.Errno
	}{
		{"19 bytes of another kind", bytes.Repeat([]byte{0x65}, 19), api.ErrEnd},
		{"19 bytes, a lower half of 4", bytes.Repeat([]byte{0x44}, 19), api.ErrEnd},
		{"one byte of another kind", []byte{0x60}, api.ErrEnd},
		{"another kind, a lower half of 0, a sum", make([]byte, 20), api.ErrKind},
		{"another kind, fewer bytes than the header", made(0x6F, 0, 0, 0), api.ErrKind},
		{"another kind, all else wrong", misfit(made(0x5F, 9, 0xFFFF, 0)), api.ErrKind},
		{"a lower half of 4, a sum", misfit(made(0x44, 20, 0, 0)), api.ErrForm},
		{"a lower half of 0, a length above what there is", made(0x40, 100, 0, 0), api.ErrForm},
		{"a lower half of 4, a length below it", made(0x44, 3, 0, 0), api.ErrForm},
		{"fewer bytes than the header, a sum", misfit(made(0x46, 24, 0, 3)), api.ErrEnd},
		{"fewer bytes than the header, a length below it", made(0x4F, 10, 0, 39), api.ErrEnd},
		{"fewer bytes than the header, the highest bit", made(0x4F, 60, 0x8000, 0), api.ErrEnd},
		{"a sum, a length below the header's", misfit(made(0x45, 19, 0, 0)), api.ErrSum},
		{"a sum, a length above what there is", misfit(made(0x45, 21, 0, 0)), api.ErrSum},
		{"a sum, the highest bit", misfit(made(0x45, 20, 0x8000, 0)), api.ErrSum},
		{"a sum, More with one byte", misfit(made(0x45, 21, 0x2000, 1)), api.ErrSum},
		{"a sum of all that is there, of a longer header", made(0x46, 24, 0, 2), api.ErrEnd},
		{"a length below the header's, the highest bit", made(0x45, 19, 0x8000, 0), api.ErrForm},
		{"a length above what there is, the highest bit", made(0x45, 21, 0x8000, 0), api.ErrEnd},
		{"a length above what there is, Whole and More", made(0x45, 29, 0x6000, 8), api.ErrEnd},
		{"a length above what there is, More with one byte", made(0x45, 21, 0x2000, 0), api.ErrEnd},
		{"a length above what there is, an end above 65515", made(0x45, 28, 0x1FFD, 7), api.ErrEnd},
	} {
		refuse(t, c.what, c.b, c.want)
		if _, e := wanted(c.b); e != c.want {
			t.Errorf("%s: by the words %v", c.what, e)
		}
	}
}

// P10.2: all that a header may tell, taken together: each length of a header and of all, each kind of flags, sums that fit and that do not, and bytes cut off anywhere.
func TestTogether(t *testing.T) {
	many := map[api.Errno]int{}
	firsts := []byte{0x40, 0x44, 0x45, 0x46, 0x47, 0x4F, 0x55, 0x65, 0x05, 0xF5}
	cuts := []uint16{0, 1, 0x1FFC, 0x1FFD, 0x1FFE, 0x1FFF, 0x2000, 0x2001, 0x3FFC, 0x3FFD, 0x3FFF, 0x4000, 0x4001, 0x6000, 0x8000, 0xC000, 0xFFFF}
	for _, first := range firsts {
		for _, all := range []int{0, 19, 20, 21, 23, 24, 27, 28, 31, 32, 36, 59, 60, 61, 68, 69, 65535} {
			for _, cut := range cuts {
				for _, fine := range []bool{true, false} {
					h := headerOf(0)
					h.first, h.all, h.cut = first, all, cut
					b := h.bytes(checks.Rising(48)...)
					if !fine {
						b[10] ^= 0x40
					}
					for _, n := range []int{0, 1, 19, 20, 21, 23, 24, 27, 28, 36, 59, 60, 61, 68} {
						got, e := Parse(b[:n])
						want, f := wanted(b[:n])
						if e != f || !checks.Alike(got, want) {
							t.Fatalf("Parse(%x) = %s, %v, not %s, %v", b[:n], short(got), e, short(want), f)
						}
						many[e]++
					}
				}
			}
		}
	}
	for _, e := range []api.Errno{api.OK, api.ErrForm, api.ErrEnd, api.ErrSum, api.ErrKind} {
		if many[e] < 500 {
			t.Errorf("%v: only %d", e, many[e])
		}
	}
}

// R1, P10.2, P10.5: bytes by chance, most of them with a sum that fits: what is parsed is as the chapter's words tell, may be, and is laid as a packet that is parsed as it.
func TestBytesByChance(t *testing.T) {
	chance := rand.New(rand.NewSource(105))
	many := map[api.Errno]int{}
	for i := range 200000 {
		b := checks.Bytes(chance.Intn, chance.Intn(100))
		if i%16 != 0 && len(b) >= 20 {
			b[0] = byte(0x44 + chance.Intn(12))
			binary.BigEndian.PutUint16(b[2:], uint16(18+chance.Intn(len(b)-16)))
			b[6] &= []byte{0xFF, 0x7F, 0x3F, 0x1F, 0}[chance.Intn(5)]
			if chance.Intn(3) == 0 {
				copy(b[6:], []byte{0x40, 0})
			}
			summed(b)
			if chance.Intn(8) == 0 {
				b[chance.Intn(20)] ^= 1 << chance.Intn(8)
			}
		}
		got, e := Parse(b)
		want, f := wanted(b)
		if e != f || !checks.Alike(got, want) {
			t.Fatalf("Parse(%x) = %s, %v, not %s, %v", b, short(got), e, short(want), f)
		}
		many[e]++
		if e != api.OK {
			continue
		}
		if again := parsed(t, laid(t, got)); !May(got) || !checks.Alike(again, got) {
			t.Fatalf("%x is parsed as %s, and laid as %s", b, short(got), short(again))
		}
	}
	for _, e := range []api.Errno{api.OK, api.ErrForm, api.ErrEnd, api.ErrSum, api.ErrKind} {
		if many[e] < 2000 {
			t.Errorf("%v: only %d", e, many[e])
		}
	}
}

// P10.5: what is parsed of bytes with options, and others behind, is laid without them.
func TestParsedIsLaid(t *testing.T) {
	for words := range 11 {
		h := headerOf(24, bytes.Repeat([]byte{1}, 4*words)...)
		h.service, h.cut = 0xB8, 0x2009
		p := parsed(t, h.bytes(checks.Rising(100)...))
		b := laid(t, p)
		if !May(p) || len(b) != 44 || b[0] != 0x45 || b[1] != 0 || !checks.Alike(parsed(t, b), p) || !checks.Alike(p, checks.At(72, checks.Followed(sized(24)))) {
			t.Errorf("%d words of options: %s, %x", words, short(p), b)
		}
	}
}

// P10.2: a check sum of 0, and of FFFF, both of which fit where the others make FFFF.
func TestSumsOfNothing(t *testing.T) {
	for id := range 1 << 16 {
		p := checks.Numbered(uint32(id), ordinary(1, 2, 3))
		b := laid(t, p)
		check := binary.BigEndian.Uint16(b[10:])
		if check == 0xFFFF {
			t.Fatalf("%x has the check sum FFFF", b)
		}
		if check != 0 {
			continue
		}
		if got := parsed(t, b); !checks.Alike(got, p) {
			t.Errorf("%x: %s", b, short(got))
		}
		b[10], b[11] = 0xFF, 0xFF
		if got := parsed(t, b); !checks.Alike(got, p) {
			t.Errorf("%x: %s", b, short(got))
		}
		b[11] = 0xFE
		refuse(t, "neither 0 nor FFFF", b, api.ErrSum)
		return
	}
	t.Error("no check sum is 0")
}

// P10.6: with one bit of its header turned no packet without options is parsed as it was.
func TestEachBit(t *testing.T) {
	for _, p := range tried(rand.New(rand.NewSource(106)), 200) {
		b := laid(t, p)
		for bit := range 160 {
			b[bit/8] ^= 0x80 >> (bit % 8)
			got, e := Parse(b)
			b[bit/8] ^= 0x80 >> (bit % 8)
			if e == api.OK && checks.Alike(got, p) || e != api.OK && !checks.Nothing(got) {
				t.Fatalf("%s, with the bit %d turned, is parsed as %s, %v", short(p), bit, short(got), e)
			}
			if bit < 4 && e != api.ErrKind || bit > 7 && e != api.ErrSum {
				t.Fatalf("%s, with the bit %d turned: %v", short(p), bit, e)
			}
		}
	}
}

// P10.6: a load that makes the sum fit, if the header is taken for a longer one, is not parsed as it was, either.
func TestLongerHeader(t *testing.T) {
	for _, c := range []struct {
		bit   byte
		first []byte
		gone  int
	}{{2, []byte{0xFD, 0xFF}, 8}, {8, []byte{0xF7, 0xFF}, 32}} {
		p := sized(40)
		clear(p.Load)
		copy(p.Load, c.first)
		b := laid(t, p)
		b[0] ^= c.bit
		if got := parsed(t, b); checks.Alike(got, p) || !bytes.Equal(got.Load, p.Load[c.gone:]) {
			t.Errorf("%x is parsed as %s", b, short(got))
		}
	}
}
