package seg

import (
	"bytes"
	"encoding/binary"
	"math/rand"
	"slices"
	"testing"

	"downhaul/addr"
	"downhaul/api"
	"downhaul/checks"
	"downhaul/opts"
)

// wanted is the segment of bytes by the chapter's words.
func wanted(w checks.Way, b []byte) (api.Seg, api.Errno) {
	if len(b) < 20 {
		return api.Seg{}, api.ErrEnd
	}
	size := int(b[12]/16) * 4
	switch {
	case size < 20:
		return api.Seg{}, api.ErrForm
	case len(b) < size:
		return api.Seg{}, api.ErrEnd
	case w.Sum(6, b) != 0xFFFF:
		return api.Seg{}, api.ErrSum
	}
	o, e := opts.Parse(b[20:size])
	if e != api.OK {
		return api.Seg{}, e
	}
	s := api.Seg{
		Src: binary.BigEndian.Uint16(b), Dst: binary.BigEndian.Uint16(b[2:]), Seq: binary.BigEndian.Uint32(b[4:]), Ack: binary.BigEndian.Uint32(b[8:]),
		Flags: b[13] % 64, Window: binary.BigEndian.Uint16(b[14:]), Urgent: binary.BigEndian.Uint16(b[18:]), Opts: o, Data: b[size:],
	}
	if !may(s) {
		return api.Seg{}, api.ErrForm
	}
	return s, api.OK
}

// parsed is the segment of bytes that must be one.
func parsed(t *testing.T, w checks.Way, b []byte) api.Seg {
	t.Helper()
	s, e := Parse(w.Src, w.Dst, b)
	if e != api.OK {
		t.Fatalf("Parse(%x, %d bytes): %v", b[:min(len(b), 80)], len(b), e)
	}
	return s
}

// refuse holds that bytes are told an error of, and nothing besides.
func refuse(t *testing.T, what string, w checks.Way, b []byte, want api.Errno) {
	t.Helper()
	if s, e := Parse(w.Src, w.Dst, b); e != want || !checks.AlikeSegs(s, api.Seg{}) || s.Data != nil {
		t.Errorf("%s: Parse(%x, %d bytes) = %s, %v, not %v", what, b[:min(len(b), 80)], len(b), brief(s), e, want)
	}
}

// checked holds that bytes are parsed as by the chapter's words, and that what is parsed may be and is laid as a segment that is parsed as it; it is the error.
func checked(t *testing.T, w checks.Way, b []byte) api.Errno {
	t.Helper()
	got, e := Parse(w.Src, w.Dst, b)
	want, f := wanted(w, b)
	if e != f || !checks.AlikeSegs(got, want) {
		t.Fatalf("Parse(%x, %d bytes) = %s, %v, not %s, %v", b[:min(len(b), 80)], len(b), brief(got), e, brief(want), f)
	}
	if e == api.OK && (!May(got) || !checks.AlikeSegs(parsed(t, w, laid(t, w, got)), got)) {
		t.Fatalf("Parse(%x) = %s; May %t", b[:min(len(b), 80)], brief(got), May(got))
	}
	return e
}

// raw are the bytes of an ordinary segment with these options, which fill a header with others, and this data.
func raw(w checks.Way, options, data []byte) []byte {
	s := checks.Ordinary()
	b := []byte{byte(s.Src >> 8), byte(s.Src), byte(s.Dst >> 8), byte(s.Dst), 1, 2, 3, 4, 0xA0, 0xB0, 0xC0, 0xD0, byte(5+len(options)/4) << 4, s.Flags, 1, 0xF5, 0, 0, 0, 0}
	return summed(w, slices.Concat(b, options, data))
}

// told are bytes whose byte at 12 is another one, with a check sum that fits.
func told(w checks.Way, b []byte, c byte) []byte {
	b = slices.Clone(b)
	b[12] = c
	return summed(w, b)
}

// misfit are bytes whose check sum does not fit.
func misfit(b []byte) []byte {
	b = slices.Clone(b)
	b[16] ^= 0x40
	return b
}

// P13.2: known bytes.
func TestKnownSegments(t *testing.T) {
	for _, c := range examples() {
		if got := parsed(t, c.w, checks.Unhex(c.want)); !checks.AlikeSegs(got, c.s) {
			t.Errorf("%s is parsed as %s", c.want, brief(got))
		}
	}
	// Options in the order of others, with fillers.
	o := api.Opts{HasMSS: true, MSS: 1460, HasScale: true, Scale: 8, SackOK: true, HasTime: true, Val: 0x155AB7}
	for _, w := range checks.Ways() {
		b := raw(w, checks.Unhex("020405b4 01 030308 0402 080a00155ab700000000"), []byte("hello"))
		if got := parsed(t, w, b); !checks.AlikeSegs(got, checks.Choosing(o, checks.Ordinary([]byte("hello")...))) {
			t.Errorf("%x is parsed as %s", b, brief(got))
		}
	}
}

// P13.2, P13.5: what is laid is parsed, between the same addresses.
func TestLaidIsParsed(t *testing.T) {
	for _, s := range tried(rand.New(rand.NewSource(136)), 3000) {
		list := checks.Ways()
		if len(s.Data) > 1000 {
			list = list[:2]
		}
		for _, w := range list {
			if got := parsed(t, w, laid(t, w, s)); !checks.AlikeSegs(got, s) || !Same(got, s) {
				t.Fatalf("%s is parsed as %s", brief(s), brief(got))
			}
		}
	}
}

// P13.2: headers of each length, with options that fill them, and with such that end before; and none, one and many bytes of data behind.
func TestHeaders(t *testing.T) {
	for words := range 11 {
		fillers := bytes.Repeat([]byte{1}, 4*words)
		fills := [][]byte{fillers, make([]byte, 4*words)}
		if words > 0 {
			fills = append(fills, append([]byte{254, byte(4 * words)}, fillers[2:]...), append(slices.Clone(fillers[4:]), 2, 4, 5, 180), append([]byte{4, 2, 0, 4}, bytes.Repeat([]byte{2}, 4*words-4)...))
		}
		for i, options := range fills {
			want := []api.Opts{{}, {}, {}, {HasMSS: true, MSS: 1460}, {SackOK: true}}[i]
			for _, n := range []int{0, 1, 2, 3, 4, 16, 535, 536, 16383, 16384} {
				for _, w := range checks.Ways()[:2] {
					b := raw(w, options, checks.Rising(n))
					if got := parsed(t, w, b); !checks.AlikeSegs(got, checks.Choosing(want, checks.Sized(n))) || len(b) != 20+4*words+n || int(b[12]) != 80+16*words {
						t.Errorf("%x is parsed as %s", b[:min(len(b), 80)], brief(got))
					}
				}
			}
		}
	}
	// With the most options, and the most data.
	full := checks.Choosing(checks.Options()[12], checks.Sized(16384))
	b := raw(checks.SixWay(), slices.Concat([]byte{2, 4, 5, 180, 4, 2, 5, 34}, spelt(checks.FourWay(), full)[28:60]), full.Data)
	if got := parsed(t, checks.SixWay(), b); !checks.AlikeSegs(got, full) || len(got.Opts.Sacks) != 4 || b[12] != 0xF0 {
		t.Error(brief(got))
	}
}

// P13.2, P13.6: each lower half of the byte at 12, and each bit of it, tell nothing, and neither do the highest bits of the flags: they are laid as 0.
func TestBitsThatTellNothing(t *testing.T) {
	for _, s := range []api.Seg{{}, checks.Sized(7), checks.Choosing(checks.Full(), checks.Sized(16)), checks.Flagged(63, checks.Sized(1))} {
		for _, w := range checks.Ways()[:2] {
			b := laid(t, w, s)
			for lower := range byte(16) {
				for upper := range byte(4) {
					text := slices.Clone(b)
					text[12] |= lower
					text[13] |= upper << 6
					summed(w, text)
					got := parsed(t, w, text)
					if !checks.AlikeSegs(got, s) || !May(got) || !bytes.Equal(laid(t, w, got), b) {
						t.Errorf("%x is parsed as %s", text, brief(got))
					}
				}
			}
		}
	}
}

// P13.2: each of the errors, by itself: too few bytes, and what the byte at 12 tells.
func TestHeaderErrors(t *testing.T) {
	for _, w := range checks.Ways() {
		refuse(t, "nil", w, nil, api.ErrEnd)
		refuse(t, "no bytes, with room", w, make([]byte, 0, 100), api.ErrEnd)
		good := laid(t, w, checks.Sized(40))
		for n := range 20 {
			refuse(t, "fewer than 20 bytes", w, good[:n], api.ErrEnd)
			refuse(t, "fewer than 20 bytes 0", w, make([]byte, n), api.ErrEnd)
		}
		for c := range 256 {
			b := told(w, good, byte(c))
			switch size := c / 16 * 4; {
			case size < 20:
				refuse(t, "an upper half below 5", w, b, api.ErrForm)
			case size == 20:
				if got := parsed(t, w, b); !checks.AlikeSegs(got, checks.Sized(40)) {
					t.Errorf("%x is parsed as %s", b, brief(got))
				}
			default:
				for n := 20; n < size; n++ {
					refuse(t, "fewer bytes than the header", w, summed(w, slices.Clone(b[:n])), api.ErrEnd)
				}
				// All data is options then.
				checked(t, w, summed(w, slices.Clone(b[:size])))
			}
		}
	}
}

// P13.2: of all check sums only one is good; a check sum of 0, and one of FFFF, are told apart by nothing.
func TestSums(t *testing.T) {
	for _, w := range checks.Ways()[:2] {
		good := laid(t, w, checks.Sized(3))
		for n := range 1 << 16 {
			b := slices.Clone(good)
			binary.BigEndian.PutUint16(b[16:], uint16(n))
			if !bytes.Equal(b, good) {
				refuse(t, "a check sum", w, b, api.ErrSum)
			}
		}
		found := false
		for n := uint16(0); !found && n < 1<<16-1; n++ {
			s := checks.With(checks.Sized(3), func(s *api.Seg) { s.Window = n })
			b := laid(t, w, s)
			if found = b[16] == 0 && b[17] == 0; found {
				b[16], b[17] = 255, 255
				if got := parsed(t, w, b); !checks.AlikeSegs(got, s) {
					t.Errorf("%x is parsed as %s", b, brief(got))
				}
				b[16], b[17] = 255, 254
				refuse(t, "neither 0 nor FFFF", w, b, api.ErrSum)
			}
		}
		if !found {
			t.Error("no check sum is 0")
		}
	}
}

// P13.2: with one bit turned nothing is parsed.
func TestEachBit(t *testing.T) {
	for _, s := range tried(rand.New(rand.NewSource(137)), 100) {
		if len(s.Data) > 300 {
			continue
		}
		w := checks.Ways()[len(s.Data)%2]
		b := laid(t, w, s)
		for bit := range 8 * len(b) {
			b[bit/8] ^= 0x80 >> (bit % 8)
			_, want := wanted(w, b)
			refuse(t, "a bit turned", w, b, want)
			if want == api.OK || want != api.ErrSum && bit/4 != 24 {
				t.Fatalf("%s, with the bit %d turned: %v", brief(s), bit, want)
			}
			b[bit/8] ^= 0x80 >> (bit % 8)
		}
	}
}

// P13.2: between other addresses nothing is parsed, but where their sum is the same: so it is, if both are changed about.
func TestOtherAddresses(t *testing.T) {
	for _, w := range checks.Ways()[:2] {
		s := checks.Choosing(checks.Full(), checks.Sized(11))
		b := laid(t, w, s)
		size := len(addr.Bytes(w.Src))
		for bit := range 8 * size {
			refuse(t, "another src", checks.FromTo(api.Addr{Six: w.Src.Six, B: checks.Flipped(w.Src.B, bit)}, w.Dst), b, api.ErrSum)
			refuse(t, "another dst", checks.FromTo(w.Src, api.Addr{Six: w.Dst.Six, B: checks.Flipped(w.Dst.B, bit)}), b, api.ErrSum)
		}
		if got := parsed(t, checks.FromTo(w.Dst, w.Src), b); !checks.AlikeSegs(got, s) {
			t.Error(brief(got))
		}
		for _, other := range checks.Ways() {
			want := api.ErrSum
			if other == w || other.Sum(6, b) == 0xFFFF {
				want = api.OK
			}
			if got, e := Parse(other.Src, other.Dst, b); e != want || e != api.OK && !checks.AlikeSegs(got, api.Seg{}) {
				t.Errorf("%v: %s, %v, not %v", other, brief(got), e, want)
			}
		}
	}
	// What stands behind the four bytes of an address does not count.
	odd := checks.FourWay()
	odd.Src.B[4], odd.Dst.B[15] = 1, 255
	if b := laid(t, checks.FourWay(), checks.Sized(9)); !bytes.Equal(laid(t, odd, checks.Sized(9)), b) || !checks.AlikeSegs(parsed(t, odd, b), checks.Sized(9)) {
		t.Error("what stands behind an address of four counts")
	}
}

// P13.2: the errors of layer 12, and too much data, behind a check sum that is good.
func TestOptionErrors(t *testing.T) {
	for _, c := range []struct {
		options string
		want    api.Errno
	}{
		{"02030405", api.ErrForm}, {"02050506 07010101", api.ErrForm}, {"01010102", api.ErrForm}, {"03000000", api.ErrForm}, {"08010000", api.ErrForm}, {"fe050000", api.ErrForm}, {"0502 0101", api.ErrForm},
		{"1d0f" + "00000000000000000000000000" + "00", api.ErrForm},
		{"04020402", api.ErrThere}, {"020405b4 020405b4", api.ErrThere}, {"030301 030301 0000", api.ErrThere}, {"0402 fe03 00 0402 00", api.ErrThere},
		{"04020402 03000000", api.ErrThere}, {"03000000 04020402", api.ErrForm},
		{"00020402", api.OK}, {"fe04fe04 fe04fe04", api.OK},
	} {
		for _, n := range []int{0, 1, 40, 16384, 16385, 40000} {
			for _, w := range checks.Ways()[:2] {
				b := raw(w, checks.Unhex(c.options), checks.Rising(n))
				if got := checked(t, w, b); got != c.want && !(c.want == api.OK && n > 16384 && got == api.ErrForm) {
					t.Errorf("%s, %d bytes: %v, not %v", c.options, n, got, c.want)
				}
				checked(t, w, misfit(b))
			}
		}
	}
}

// P13.2: no more than 16384 bytes of data, though the check sum is good, also of more bytes than the pseudo header of addresses of four tells of.
func TestTooMuchData(t *testing.T) {
	for _, w := range checks.Ways() {
		for _, o := range []string{"", "020405b4", "0402 0000 04020402"} {
			for _, n := range []int{16385, 16386, 16388, 32768, 65515, 65516, 65535, 65536, 65537, 1<<16 + 100, 1 << 18} {
				b := raw(w, checks.Unhex(o), make([]byte, n))
				refuse(t, "too much data", w, b, api.ErrForm)
				refuse(t, "too much data, and a sum", w, misfit(b), api.ErrSum)
			}
			if got := parsed(t, w, raw(w, checks.Unhex(o), make([]byte, 16384))); len(got.Data) != 16384 {
				t.Error(brief(got))
			}
		}
		refuse(t, "too much data, and an option twice", w, raw(w, []byte{4, 2, 4, 2}, make([]byte, 16385)), api.ErrThere)
	}
}

// P13.2: where more than one error holds, the first that the chapter lists is told.
func TestFirstError(t *testing.T) {
	w := checks.FourWay()
	twice, wrong := []byte{4, 2, 4, 2}, []byte{4, 3, 0, 0}
	for _, c := range []struct {
		what string
		b    []byte
		want api.Errno
	}{
		{"19 bytes, an upper half of 4", bytes.Repeat([]byte{0x40}, 19), api.ErrEnd},
		{"13 bytes, an upper half of 0, a sum", make([]byte, 13), api.ErrEnd},
		{"an upper half of 4, a sum", misfit(told(w, raw(w, nil, nil), 0x4F)), api.ErrForm},
		{"an upper half of 0, a sum", make([]byte, 20), api.ErrForm},
		{"an upper half of 3, too much data", told(w, raw(w, nil, make([]byte, 20000)), 0x30), api.ErrForm},
		{"fewer bytes than the header, a sum", misfit(told(w, raw(w, nil, make([]byte, 3)), 0x60)), api.ErrEnd},
		{"fewer bytes than the header, options twice", told(w, raw(w, twice, nil), 0x70), api.ErrEnd},
		{"fewer bytes than the header, options that are wrong", told(w, raw(w, wrong, make([]byte, 35)), 0xF0), api.ErrEnd},
		{"a sum, options twice", misfit(raw(w, twice, nil)), api.ErrSum},
		{"a sum, options that are wrong", misfit(raw(w, wrong, nil)), api.ErrSum},
		{"a sum, too much data", misfit(raw(w, nil, make([]byte, 16385))), api.ErrSum},
		{"options twice, too much data", raw(w, twice, make([]byte, 16385)), api.ErrThere},
		{"options that are wrong, too much data", raw(w, wrong, make([]byte, 16385)), api.ErrForm},
	} {
		refuse(t, c.what, w, c.b, c.want)
		if _, e := wanted(w, c.b); e != c.want {
			t.Errorf("%s: by the words %v", c.what, e)
		}
	}
}

// someBytes are bytes by chance, most of them with a check sum that fits, and options of some kinds.
func someBytes(chance *rand.Rand, w checks.Way) []byte {
	b := checks.Bytes(chance.Intn, chance.Intn(90))
	if len(b) < 20 || chance.Intn(16) == 0 {
		return b
	}
	b[12] = byte(0x40 + chance.Intn(0xB0))
	at := 20
	for _, kind := range []byte{4, 254, 1, 2, 3, 4, 8, 2, 0}[chance.Intn(6):] {
		n := map[byte]int{0: 1, 1: 1, 2: 4, 3: 3, 4: 2, 8: 10, 254: 6}[kind]
		if chance.Intn(3) > 0 && at+n <= len(b) {
			b[at] = kind
			if n > 1 {
				b[at+1] = byte(n)
			}
			at += n
		}
	}
	summed(w, b)
	if chance.Intn(10) == 0 {
		b[chance.Intn(len(b))] ^= 1 << chance.Intn(8)
	}
	return b
}

// R1, P13.2, P13.6: bytes by chance: they are parsed as the chapter's words tell; what is parsed may be, and is laid as a segment that is parsed as it.
func TestBytesByChance(t *testing.T) {
	chance := rand.New(rand.NewSource(138))
	many := map[api.Errno]int{}
	for i := range 200000 {
		w := checks.Ways()[i%5]
		many[checked(t, w, someBytes(chance, w))]++
	}
	for _, e := range []api.Errno{api.OK, api.ErrForm, api.ErrEnd, api.ErrThere, api.ErrSum} {
		if many[e] < 2000 {
			t.Errorf("%v: only %d", e, many[e])
		}
	}
}
