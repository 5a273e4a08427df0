package icmp

import (
	"bytes"
	"encoding/binary"
	"math/rand"
	"slices"
	"testing"

	"downhaul/api"
	"downhaul/checks"
)

// wanted is the message of bytes by the chapter's words.
func wanted(w checks.Way, b []byte) (Msg, api.Errno) {
	switch {
	case len(b) < 8:
		return Msg{}, api.ErrEnd
	case sum(w, b) != 0xFFFF:
		return Msg{}, api.ErrSum
	}
	kinds := map[byte]int{8: 1, 0: 2, 3: 3, 11: 5}
	if w.Src.Six {
		kinds = map[byte]int{128: 1, 129: 2, 1: 3, 2: 4, 3: 5}
	}
	m := Msg{Kind: kinds[b[0]], Data: b[8:]}
	if m.Kind == 3 && b[1] == 4 && !w.Src.Six {
		m.Kind = 4
	}
	switch m.Kind {
	case 1, 2:
		m.Id, m.Seq = binary.BigEndian.Uint16(b[4:]), binary.BigEndian.Uint16(b[6:])
	case 3, 5:
		m.Code = b[1]
	case 4:
		m.MTU = binary.BigEndian.Uint32(b[4:])
	}
	if !may(m, w.Src.Six) {
		return Msg{}, api.ErrKind
	}
	return m, api.OK
}

// parsed is the message of bytes that must be one.
func parsed(t *testing.T, w checks.Way, b []byte) Msg {
	t.Helper()
	m, e := Parse(b, w.Src, w.Dst)
	if e != api.OK {
		t.Fatalf("Parse(%x, %d bytes): %v", b[:min(len(b), 80)], len(b), e)
	}
	return m
}

// refuse holds that bytes are told an error of, and nothing besides.
func refuse(t *testing.T, what string, w checks.Way, b []byte, want api.Errno) {
	t.Helper()
	if m, e := Parse(b, w.Src, w.Dst); e != want || !alike(m, Msg{}) || m.Data != nil {
		t.Errorf("%s: Parse(%x, %d bytes) = %s, %v, not %v", what, b[:min(len(b), 80)], len(b), brief(m), e, want)
	}
}

// checked holds that bytes are parsed as by the chapter's words, and that what is parsed may be and is laid as a message that is parsed as it; it is the error.
func checked(t *testing.T, w checks.Way, b []byte) api.Errno {
	t.Helper()
	got, e := Parse(b, w.Src, w.Dst)
	want, f := wanted(w, b)
	if e != f || !alike(got, want) {
		t.Fatalf("Parse(%x, %d bytes) = %s, %v, not %s, %v", b[:min(len(b), 80)], len(b), brief(got), e, brief(want), f)
	}
	if e == api.OK && (!May(got, w.Src.Six) || !alike(parsed(t, w, laid(t, w, got)), got)) {
		t.Fatalf("Parse(%x) = %s; May %t", b[:min(len(b), 80)], brief(got), May(got, w.Src.Six))
	}
	return e
}

// raw are bytes of a type, a code, four bytes, and data, with a check sum that fits.
func raw(w checks.Way, number, code byte, word uint32, data ...byte) []byte {
	b := binary.BigEndian.AppendUint32([]byte{number, code, 0, 0}, word)
	return summed(w, append(b, data...))
}

// misfit are bytes whose check sum does not fit.
func misfit(b []byte) []byte {
	b = slices.Clone(b)
	b[2] ^= 0x40
	return b
}

// P14.2: known bytes.
func TestKnownMessages(t *testing.T) {
	for _, c := range examples() {
		if got := parsed(t, c.w, checks.Unhex(c.want)); !alike(got, c.m) {
			t.Errorf("%s is parsed as %s", c.want, brief(got))
		}
	}
}

// P14.2, P14.4: what is laid is parsed, between the same addresses.
func TestLaidIsParsed(t *testing.T) {
	for _, w := range checks.Ways() {
		for _, m := range tried(rand.New(rand.NewSource(145)), w.Src.Six, 1000) {
			if got := parsed(t, w, laid(t, w, m)); !alike(got, m) || !Same(got, m) {
				t.Fatalf("%s is parsed as %s", brief(m), brief(got))
			}
		}
	}
}

// P14.2, P14.5: each type with each code, between addresses of each kind: also a type of IPv4 between addresses of sixteen bytes, and the other way.
func TestTypes(t *testing.T) {
	for _, w := range checks.Ways() {
		many := map[int]int{}
		for number := range 256 {
			for code := range 256 {
				b := raw(w, byte(number), byte(code), 0x0000ABCD, 7, 8, 9)
				if checked(t, w, b) != api.OK {
					refuse(t, "a type that is none", w, b, api.ErrKind)
					refuse(t, "a type that is none, and a sum", w, misfit(b), api.ErrSum)
				}
				m, _ := Parse(b, w.Src, w.Dst)
				many[m.Kind]++
			}
		}
		want := [6]int{252 * 256, 256, 256, 255, 1, 256}
		if w.Src.Six {
			want = [6]int{251 * 256, 256, 256, 256, 256, 256}
		}
		if got := [6]int{many[0], many[1], many[2], many[3], many[4], many[5]}; got != want {
			t.Errorf("%v: %v, not %v", w, got, want)
		}
	}
}

// P14.2: types that only the other one has, and those that both have, told by hand.
func TestTypesOfTheOther(t *testing.T) {
	four, six := checks.FourWay(), checks.SixWay()
	for _, number := range []byte{1, 2, 4, 5, 7, 9, 10, 12, 13, 127, 128, 129, 130, 255} {
		refuse(t, "a type of IPv4 that is none", four, raw(four, number, 0, 0), api.ErrKind)
	}
	for _, number := range []byte{0, 4, 5, 7, 8, 9, 10, 11, 12, 127, 130, 131, 255} {
		refuse(t, "a type of IPv6 that is none", six, raw(six, number, 0, 0), api.ErrKind)
	}
	for _, c := range []struct {
		w      checks.Way
		number byte
		code   byte
		want   Msg
	}{
		{four, 3, 0, Msg{Kind: Unreachable}}, {four, 3, 3, Msg{Kind: Unreachable, Code: 3}}, {four, 3, 5, Msg{Kind: Unreachable, Code: 5}},
		{four, 3, 4, Msg{Kind: TooBig, MTU: 1280}},
		{six, 3, 0, Msg{Kind: TimeOver}}, {six, 3, 4, Msg{Kind: TimeOver, Code: 4}},
		{six, 1, 4, Msg{Kind: Unreachable, Code: 4}}, {six, 2, 0, Msg{Kind: TooBig, MTU: 1280}}, {six, 2, 4, Msg{Kind: TooBig, MTU: 1280}},
		{four, 11, 4, Msg{Kind: TimeOver, Code: 4}}, {four, 8, 0, Msg{Kind: Ask, Seq: 1280}}, {four, 0, 4, Msg{Kind: Answer, Seq: 1280}},
	} {
		if got := parsed(t, c.w, raw(c.w, c.number, c.code, 1280)); !alike(got, c.want) {
			t.Errorf("type %d, code %d: %s, not %s", c.number, c.code, brief(got), brief(c.want))
		}
	}
}

// P14.2: what does not count of a kind is let go, and laid as 0: of Ask, Answer and TooBig the code, of Unreachable and TimeOver the four bytes.
func TestWhatIsLetGo(t *testing.T) {
	for _, w := range checks.Ways() {
		for kind := 1; kind <= 5; kind++ {
			for _, n := range []int{0, 1, 6, 1400} {
				m := sized(kind, n)
				b := laid(t, w, m)
				for bit := range 40 {
					text := slices.Clone(b)
					switch {
					case (kind == 3 || kind == 5) && bit < 32:
						text[4+bit/8] ^= 0x80 >> (bit % 8)
					case (kind == 1 || kind == 2 || kind == 4 && w.Src.Six) && bit >= 32:
						text[1] ^= 0x80 >> (bit % 8)
					default:
						continue
					}
					summed(w, text)
					got := parsed(t, w, text)
					if !alike(got, m) || !May(got, w.Src.Six) || !bytes.Equal(laid(t, w, got), b) {
						t.Errorf("%x is parsed as %s", text[:min(len(text), 40)], brief(got))
					}
				}
			}
		}
	}
	all := raw(checks.FourWay(), 3, 1, 0xFFFFFFFF, 5)
	if got := parsed(t, checks.FourWay(), all); !alike(got, Msg{Kind: Unreachable, Code: 1, Data: []byte{5}}) {
		t.Error(brief(got))
	}
}

// P14.2: fewer than 8 bytes, and just 8.
func TestFewBytes(t *testing.T) {
	for _, w := range checks.Ways() {
		refuse(t, "nil", w, nil, api.ErrEnd)
		refuse(t, "no bytes, with room", w, make([]byte, 0, 100), api.ErrEnd)
		for kind := 1; kind <= 5; kind++ {
			good := laid(t, w, sized(kind, 20))
			for n := range 8 {
				refuse(t, "fewer than 8 bytes", w, good[:n], api.ErrEnd)
				refuse(t, "fewer than 8 bytes 0", w, make([]byte, n), api.ErrEnd)
				refuse(t, "fewer than 8 bytes FF", w, bytes.Repeat([]byte{255}, n), api.ErrEnd)
				if n > 3 {
					refuse(t, "fewer than 8 bytes, with a sum that fits", w, summed(w, slices.Clone(good[:n])), api.ErrEnd)
				}
			}
			if got := parsed(t, w, summed(w, slices.Clone(good[:8]))); !alike(got, of(kind)) {
				t.Errorf("8 bytes are parsed as %s", brief(got))
			}
		}
	}
}

// P14.2: of all check sums only one is good; a check sum of 0, and one of FFFF, are told apart by nothing.
func TestSums(t *testing.T) {
	for _, w := range checks.Ways()[:2] {
		good := laid(t, w, sized(1, 3))
		for n := range 1 << 16 {
			b := slices.Clone(good)
			binary.BigEndian.PutUint16(b[2:], uint16(n))
			if !bytes.Equal(b, good) {
				refuse(t, "a check sum", w, b, api.ErrSum)
			}
		}
		found := false
		for n := range 1<<16 - 1 {
			m := numbered(uint16(n), 5, of(1))
			b := laid(t, w, m)
			if b[2] != 0 || b[3] != 0 {
				continue
			}
			found = true
			b[2], b[3] = 255, 255
			if got := parsed(t, w, b); !alike(got, m) {
				t.Errorf("%x is parsed as %s", b, brief(got))
			}
			b[2], b[3] = 255, 254
			refuse(t, "neither 0 nor FFFF", w, b, api.ErrSum)
		}
		if !found {
			t.Error("no check sum is 0")
		}
	}
	// A sum of 0 is not one of FFFF.
	refuse(t, "bytes 0", checks.FourWay(), make([]byte, 8), api.ErrSum)
	refuse(t, "bytes 0", checks.FourWay(), make([]byte, 1500), api.ErrSum)
}

// P14.2: with one bit turned nothing is parsed.
func TestEachBit(t *testing.T) {
	chance := rand.New(rand.NewSource(146))
	for _, w := range checks.Ways()[:2] {
		for _, m := range tried(chance, w.Src.Six, 100) {
			if len(m.Data) > 200 {
				continue
			}
			b := laid(t, w, m)
			for bit := range 8 * len(b) {
				b[bit/8] ^= 0x80 >> (bit % 8)
				refuse(t, "a bit turned", w, b, api.ErrSum)
				b[bit/8] ^= 0x80 >> (bit % 8)
			}
		}
	}
}

// P14.2: between other addresses of sixteen bytes nothing is parsed, but where their sum is the same: so it is, if both are changed about; between others of four all is.
func TestOtherAddresses(t *testing.T) {
	for _, w := range checks.Ways()[:2] {
		for kind := 1; kind <= 5; kind++ {
			m := sized(kind, 11)
			b := laid(t, w, m)
			for bit := range 128 {
				src := checks.FromTo(api.Addr{Six: w.Src.Six, B: checks.Flipped(w.Src.B, bit)}, w.Dst)
				dst := checks.FromTo(w.Src, api.Addr{Six: w.Dst.Six, B: checks.Flipped(w.Dst.B, bit)})
				for _, other := range []checks.Way{src, dst} {
					if w.Src.Six {
						refuse(t, "another address", other, b, api.ErrSum)
					} else if got := parsed(t, other, b); !alike(got, m) {
						t.Errorf("an address of four counts: %s", brief(got))
					}
				}
			}
			if got := parsed(t, checks.FromTo(w.Dst, w.Src), b); !alike(got, m) {
				t.Error(brief(got))
			}
			for _, other := range checks.Ways() {
				checked(t, other, b)
			}
		}
	}
}

// P14.2: a message of IPv4 is none between addresses of sixteen bytes, and the other way: the sum does not fit, and with one that does it is another one.
func TestOfTheOther(t *testing.T) {
	four, six := checks.FourWay(), checks.SixWay()
	for kind := 1; kind <= 5; kind++ {
		for _, n := range []int{0, 1, 100, 1400} {
			m := sized(kind, n)
			ofFour, ofSix := laid(t, four, m), laid(t, six, m)
			refuse(t, "of IPv4", six, ofFour, api.ErrSum)
			refuse(t, "of IPv6", four, ofSix, api.ErrSum)
			checked(t, six, summed(six, slices.Clone(ofFour)))
			if kind != 5 {
				refuse(t, "of IPv6, summed", four, summed(four, slices.Clone(ofSix)), api.ErrKind)
			}
			if kind < 3 || kind == 5 {
				refuse(t, "of IPv4, summed", six, summed(six, slices.Clone(ofFour)), api.ErrKind)
			}
		}
	}
}

// P14.2: no more than 1400 bytes of data, and of IPv4 no MTU above 2^16 - 1, though the check sum is good.
func TestWhatMayNotBe(t *testing.T) {
	for _, w := range checks.Ways() {
		for kind := 1; kind <= 5; kind++ {
			for _, n := range []int{1401, 1402, 1500, 2801, 65527, 65528, 65535, 65536, 1<<16 + 100, 1 << 18} {
				b := spelt(w, sized(kind, n))
				refuse(t, "too much data", w, b, api.ErrKind)
				refuse(t, "too much data, and a sum", w, misfit(b), api.ErrSum)
			}
			if got := parsed(t, w, spelt(w, sized(kind, 1400))); !alike(got, sized(kind, 1400)) {
				t.Error(brief(got))
			}
		}
		for _, n := range []uint32{1<<16 - 1, 1 << 16, 1<<16 + 1, 1<<16 + 1280, 1 << 24, 1 << 31, 1<<32 - 1} {
			m := limited(n, sized(4, 28))
			if w.Src.Six || n < 1<<16 {
				if got := parsed(t, w, spelt(w, m)); !alike(got, m) {
					t.Errorf("%s is parsed as %s", brief(m), brief(got))
				}
				continue
			}
			refuse(t, "an MTU", w, spelt(w, m), api.ErrKind)
			refuse(t, "an MTU, and a sum", w, misfit(spelt(w, m)), api.ErrSum)
		}
	}
}

// P14.2: where more than one error holds, the first that the chapter lists is told.
func TestFirstError(t *testing.T) {
	four, six := checks.FourWay(), checks.SixWay()
	for _, c := range []struct {
		what string
		w    checks.Way
		b    []byte
		want api.Errno
	}{
		{"7 bytes, a sum, a type", four, []byte{77, 0, 1, 2, 3, 4, 5}, api.ErrEnd},
		{"7 bytes, a type", four, summed(four, []byte{77, 0, 0, 0, 3, 4, 5}), api.ErrEnd},
		{"7 bytes, a sum, of IPv6", six, []byte{128, 0, 1, 2, 3, 4, 5}, api.ErrEnd},
		{"a sum, a type", four, misfit(raw(four, 77, 0, 0)), api.ErrSum},
		{"a sum, a type of IPv4", six, misfit(raw(six, 8, 0, 0)), api.ErrSum},
		{"a sum, too much data", four, misfit(raw(four, 8, 0, 0, make([]byte, 1401)...)), api.ErrSum},
		{"a sum, an MTU", four, misfit(raw(four, 3, 4, 1<<16)), api.ErrSum},
		{"a type, too much data", four, raw(four, 77, 0, 0, make([]byte, 1401)...), api.ErrKind},
		{"an MTU, too much data", four, raw(four, 3, 4, 1<<16, make([]byte, 1401)...), api.ErrKind},
	} {
		refuse(t, c.what, c.w, c.b, c.want)
		if _, e := wanted(c.w, c.b); e != c.want {
			t.Errorf("%s: by the words %v", c.what, e)
		}
	}
}

// someBytes are bytes by chance, most of them of a type that there is, and with a check sum that fits.
func someBytes(chance *rand.Rand, w checks.Way) []byte {
	b := checks.Bytes(chance.Intn, chance.Intn(60))
	if chance.Intn(50) == 0 {
		b = checks.Bytes(chance.Intn, 1400+chance.Intn(17))
	}
	if len(b) < 8 || chance.Intn(16) == 0 {
		return b
	}
	if chance.Intn(8) > 0 {
		b[0] = []byte{8, 0, 3, 3, 11, 128, 129, 1, 2, 3}[chance.Intn(10)]
	}
	if chance.Intn(2) == 0 {
		b[1] = 4
	}
	if chance.Intn(2) == 0 {
		b[4], b[5] = 0, byte(chance.Intn(4)/3)
	}
	summed(w, b)
	if chance.Intn(10) == 0 {
		b[chance.Intn(len(b))] ^= 1 << chance.Intn(8)
	}
	return b
}

// R1, P14.2, P14.5: bytes by chance: they are parsed as the chapter's words tell; what is parsed may be, and is laid as a message that is parsed as it.
func TestBytesByChance(t *testing.T) {
	chance := rand.New(rand.NewSource(147))
	ways := checks.Ways()
	many := map[api.Errno]int{}
	for i := range 200000 {
		w := ways[i%len(ways)]
		many[checked(t, w, someBytes(chance, w))]++
	}
	for _, e := range []api.Errno{api.OK, api.ErrEnd, api.ErrSum, api.ErrKind} {
		if many[e] < 10000 {
			t.Errorf("%v: only %d", e, many[e])
		}
	}
}
