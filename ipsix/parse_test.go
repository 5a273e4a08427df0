package ipsix

import (
	"bytes"
	"encoding/binary"
	"math/rand"
	"slices"
	"testing"

	"downhaul/api"
	"downhaul/checks"
)

// extra is a header that is gone past: its kind, and what it has behind the byte that tells what comes next.
type extra struct {
	kind byte
	rest []byte
}

// long is one that tells its length: n, and n times 8 and 6 bytes.
func long(kind byte, n int) extra {
	return extra{kind, append([]byte{byte(n)}, checks.Rising(8*n+6)...)}
}

// split is that of a piece: its byte that tells nothing, its 16 bits, and its Id.
func split(nothing byte, bits uint16, id uint32) extra {
	return extra{44, binary.BigEndian.AppendUint32([]byte{nothing, byte(bits >> 8), byte(bits)}, id)}
}

// chained are the bytes of an ordinary packet with headers, ahead of a load of that Proto.
func chained(proto byte, load []byte, extras ...extra) []byte {
	next := proto
	for _, x := range slices.Backward(extras) {
		load = slices.Concat([]byte{next}, x.rest, load)
		next = x.kind
	}
	return carried(next, load)
}

// carried are the bytes of an ordinary packet's header, and of what stands behind it.
func carried(next byte, load []byte) []byte {
	p := ordinary()
	return slices.Concat([]byte{0x60, 0, 0, 0, byte(len(load) >> 8), byte(len(load)), next, 64}, p.Src.B[:], p.Dst.B[:], load)
}

// wanted is the packet of bytes by the chapter's words.
func wanted(b []byte) (api.Packet, api.Errno) {
	if len(b) < 40 {
		return api.Packet{}, api.ErrEnd
	}
	if b[0]/16 != 6 {
		return api.Packet{}, api.ErrKind
	}
	size := int(b[4])*256 + int(b[5])
	if len(b)-40 < size {
		return api.Packet{}, api.ErrEnd
	}
	p := api.Packet{Hops: b[7], Whole: true, Src: api.Addr{Six: true, B: [16]byte(b[8:])}, Dst: api.Addr{Six: true, B: [16]byte(b[24:])}}
	next, rest := b[6], b[40:40+size]
	for nth := 1; isGone(next) && p.Whole; nth++ {
		if nth == 9 {
			return api.Packet{}, api.ErrMany
		}
		if next == 0 && nth != 1 {
			return api.Packet{}, api.ErrForm
		}
		has := 8
		if next != 44 && len(rest) > 1 {
			has = 2 + int(rest[1])*8 + 6
		}
		if len(rest) < has {
			return api.Packet{}, api.ErrEnd
		}
		if next == 44 {
			p.Whole, p.More, p.Off = false, rest[3]%2 == 1, (int(rest[2])*32+int(rest[3])/8)*8
			p.Id = uint32(rest[4])*1<<24 + uint32(rest[5])*1<<16 + uint32(rest[6])*1<<8 + uint32(rest[7])
		}
		next, rest = rest[0], rest[has:]
	}
	p.Proto, p.Load = next, rest
	if !may(p) {
		return api.Packet{}, api.ErrForm
	}
	return p, api.OK
}

// parsed is the packet of bytes that must be one.
func parsed(t *testing.T, b []byte) api.Packet {
	t.Helper()
	p, e := Parse(b)
	if e != api.OK {
		t.Fatalf("Parse(%x, %d bytes): %v", b[:min(len(b), 100)], len(b), e)
	}
	return p
}

// refuse holds that bytes are told an error of, and nothing besides.
func refuse(t *testing.T, what string, b []byte, want api.Errno) {
	t.Helper()
	if p, e := Parse(b); e != want || !checks.Nothing(p) {
		t.Errorf("%s: Parse(%x, %d bytes) = %s, %v, not %v", what, b[:min(len(b), 100)], len(b), short(p), e, want)
	}
}

// P11.2, P11.4: what is laid is parsed, whatever stands behind.
func TestLaidIsParsed(t *testing.T) {
	chance := rand.New(rand.NewSource(113))
	for _, p := range tried(chance, 2000) {
		b := laid(t, p)
		if got := parsed(t, b); !checks.Alike(got, p) {
			t.Fatalf("%s is parsed as %s", short(p), short(got))
		}
		for _, behind := range [][]byte{{0}, {255}, make([]byte, 7), b, checks.Bytes(chance.Intn, 1+chance.Intn(100)), bytes.Repeat([]byte{0x2C}, 40)} {
			if got := parsed(t, slices.Concat(b, behind)); !checks.Alike(got, p) {
				t.Fatalf("%s, with %x behind, is parsed as %s", short(p), behind[:min(len(behind), 40)], short(got))
			}
		}
	}
	p := sized(100)
	if got := parsed(t, append(laid(t, p), make([]byte, 1<<20)...)); !checks.Alike(got, p) {
		t.Error(short(got))
	}
}

// P11.2: the 28 bits of a header behind its kind tell nothing of a packet.
func TestNothingTold(t *testing.T) {
	for _, p := range []api.Packet{sized(3), cut(sized(3)), empty()} {
		b := laid(t, p)
		for bit := 4; bit < 32; bit++ {
			turned := slices.Clone(b)
			turned[bit/8] ^= 0x80 >> (bit % 8)
			if got := parsed(t, turned); !checks.Alike(got, p) {
				t.Errorf("with the bit %d turned: %s", bit, short(got))
			}
		}
		copy(b, []byte{0x6F, 255, 255, 255})
		if got := parsed(t, b); !checks.Alike(got, p) {
			t.Errorf("with all bits set: %s", short(got))
		}
	}
}

// P11.2: headers are gone past: each kind, short ones and long ones, alone and behind others, the same ones twice.
func TestHeaders(t *testing.T) {
	want := sized(11)
	lengths := []int{0, 1, 255}
	var chains [][]extra
	for _, first := range []byte(lengthy) {
		for _, n := range lengths {
			chains = append(chains, []extra{long(first, n)})
			for _, second := range []byte{43, 60} {
				for _, m := range lengths {
					chains = append(chains, []extra{long(first, n), long(second, m)})
					for _, third := range []byte{43, 60} {
						chains = append(chains, []extra{long(first, n), long(second, m), long(third, n)})
					}
				}
			}
		}
	}
	if len(chains) != 9+9*6+9*6*2 {
		t.Fatal(len(chains))
	}
	for _, c := range chains {
		b := chained(6, want.Load, c...)
		if got := parsed(t, b); !checks.Alike(got, want) {
			t.Fatalf("%x is parsed as %s", b[:min(len(b), 100)], short(got))
		}
		piece := checks.At(16, cut(want))
		b = chained(6, want.Load, append(slices.Clone(c), split(0, 16, 0x12345678))...)
		if got := parsed(t, b); !checks.Alike(got, piece) {
			t.Fatalf("%x is parsed as %s", b[:min(len(b), 100)], short(got))
		}
		if got := parsed(t, chained(59, nil, c...)); !checks.Alike(got, checks.Carrying(59, ordinary())) {
			t.Fatalf("%d headers, and no load: %s", len(c), short(got))
		}
	}
}

// P11.2: each length that a header may tell.
func TestEachLength(t *testing.T) {
	want := sized(5)
	for _, kind := range []byte(lengthy) {
		for n := range 256 {
			b := chained(6, want.Load, long(kind, n))
			if len(b) != 40+8*n+8+5 {
				t.Fatal(len(b))
			}
			if got := parsed(t, b); !checks.Alike(got, want) {
				t.Fatalf("%d, %d: %s", kind, n, short(got))
			}
			// What the header has behind what tells its length tells nothing.
			for i := range 8*n + 6 {
				b[42+i] = ^b[42+i]
			}
			if got := parsed(t, b); !checks.Alike(got, want) {
				t.Fatalf("%d, %d, turned: %s", kind, n, short(got))
			}
		}
	}
}

// eights are chains of as many headers as there may be, of those that tell their length.
func eights() [][]extra {
	var out [][]extra
	for _, kinds := range []string{"\x2B\x2B\x2B\x2B\x2B\x2B\x2B\x2B", "\x3C\x3C\x3C\x3C\x3C\x3C\x3C\x3C", "\x00\x3C\x2B\x3C\x2B\x3C\x2B\x3C", "\x00\x2B\x2B\x2B\x3C\x3C\x3C\x3C"} {
		var c []extra
		for i := range len(kinds) {
			c = append(c, long(kinds[i], i*i%5))
		}
		out = append(out, c)
	}
	return out
}

// P11.2: eight headers of all may be there, the piece's among them; at the ninth ErrMany is told, of whatever kind it is, whole or not.
func TestMany(t *testing.T) {
	want := sized(9)
	piece := checks.Followed(checks.At(8, cut(sized(8))))
	for _, c := range eights() {
		if got := parsed(t, chained(6, want.Load, c...)); !checks.Alike(got, want) {
			t.Errorf("eight: %s", short(got))
		}
		if got := parsed(t, chained(6, piece.Load, append(slices.Clone(c[:7]), split(0, 9, 0x12345678))...)); !checks.Alike(got, piece) {
			t.Errorf("seven and a piece's: %s", short(got))
		}
		for _, kind := range []byte(gone) {
			refuse(t, "a ninth, of no bytes", chained(kind, nil, c...), api.ErrMany)
			refuse(t, "a ninth, of one byte", chained(kind, []byte{6}, c...), api.ErrMany)
			refuse(t, "a ninth, not whole", chained(kind, []byte{6, 1, 0, 0, 0, 0, 0, 0}, c...), api.ErrMany)
			refuse(t, "a ninth", chained(kind, []byte{6, 0, 0, 0, 0, 0, 0, 0, 1, 2, 3}, c...), api.ErrMany)
			refuse(t, "a tenth", chained(kind, []byte{43, 0, 0, 0, 0, 0, 0, 0, 6, 0, 0, 0, 0, 0, 0, 0}, c...), api.ErrMany)
		}
		refuse(t, "a ninth, a packet that may not be", chained(44, []byte{0, 0, 0, 1, 0, 0, 0, 0, 9}, c...), api.ErrMany)
	}
	for _, n := range []int{10, 100, 8000} {
		refuse(t, "many", carried(60, bytes.Repeat([]byte{60, 0, 0, 0, 0, 0, 0, 0}, n)), api.ErrMany)
	}
}

// P11.2: behind the header of a piece no header is gone past: all is the load, and what comes next its Proto, which may not be one of the headers.
func TestBehindThePiece(t *testing.T) {
	for _, kind := range []byte(gone) {
		header := append([]byte{6}, long(kind, 0).rest...)
		if kind == 44 {
			header = append([]byte{6}, split(0, 0, 1).rest...)
		}
		for _, load := range [][]byte{nil, {6}, header, append(header, 1, 2, 3), {6, 255, 0, 0, 0, 0, 0, 0}} {
			refuse(t, "a header behind", chained(kind, load, split(0, 0, 5)), api.ErrForm)
			refuse(t, "a header behind, with others ahead", chained(kind, load, long(0, 1), long(60, 0), split(0, 64, 5)), api.ErrForm)
			for _, c := range eights() {
				refuse(t, "a header behind seven and the piece's", chained(kind, load, append(c[:7:7], split(0, 0, 5))...), api.ErrForm)
			}
		}
		// A load that looks like a header is a load.
		for _, proto := range []byte{6, 59} {
			want := checks.Carrying(proto, cut(ordinary(header...)))
			if got := parsed(t, chained(proto, header, split(0, 0, want.Id))); !checks.Alike(got, want) {
				t.Errorf("%d: %s", kind, short(got))
			}
		}
	}
}

// P11.2: of a piece's 16 bits the highest 13 tell Off, the lowest More, the two between nothing; its second byte tells nothing.
func TestPieceBits(t *testing.T) {
	for bits := range 1 << 16 {
		off := bits / 8 * 8
		b := chained(17, nil, split(byte(bits%251), uint16(bits), uint32(bits)*65537))
		if off == 65528 {
			refuse(t, "an Off whose end is too great", b, api.ErrForm)
			continue
		}
		want := api.Packet{Src: ordinary().Src, Dst: ordinary().Dst, Proto: 17, Hops: 64, Id: uint32(bits) * 65537, More: bits%2 == 1, Off: off}
		if got := parsed(t, b); !checks.Alike(got, want) {
			t.Fatalf("%x is parsed as %s", b, short(got))
		}
	}
	for nothing := range 256 {
		want := checks.At(64, checks.Followed(cut(sized(16))))
		for _, bits := range []uint16{65, 67, 69, 71} {
			if got := parsed(t, chained(6, want.Load, split(byte(nothing), bits, want.Id))); !checks.Alike(got, want) {
				t.Fatalf("%d, %d: %s", nothing, bits, short(got))
			}
		}
	}
}

// P11.2: packets of as many bytes as the header can tell of, and those that may not be for their loads.
func TestGreatest(t *testing.T) {
	load := checks.Rising(65535)
	for n := 65520; n <= 65535; n++ {
		b := carried(6, load[:n])
		if n > 65527 {
			refuse(t, "a load of too many bytes", b, api.ErrForm)
		} else if got := parsed(t, b); !checks.Alike(got, sized(n)) {
			t.Errorf("%d: %s", n, short(got))
		}
	}
	for headers := 1; headers <= 8; headers++ {
		for _, kind := range []byte{43, 60} {
			n := 65535 - 8*headers
			b := chained(6, load[:n], slices.Repeat([]extra{long(kind, 0)}, headers)...)
			if got := parsed(t, b); !checks.Alike(got, sized(n)) {
				t.Errorf("%d: %s", headers, short(got))
			}
		}
	}
	if got := parsed(t, chained(6, load[:65527], split(0, 0, 0x12345678))); !checks.Alike(got, cut(sized(65527))) {
		t.Error(short(got))
	}
}

// P11.2: each of the errors of the header, by itself.
func TestErrors(t *testing.T) {
	good := laid(t, sized(40))
	for n := range 40 {
		refuse(t, "fewer than 40 bytes", good[:n], api.ErrEnd)
		refuse(t, "fewer than 40 bytes", make([]byte, n), api.ErrEnd)
	}
	refuse(t, "no bytes", nil, api.ErrEnd)
	refuse(t, "no bytes", []byte{}, api.ErrEnd)
	refuse(t, "no bytes, with room", make([]byte, 0, 100), api.ErrEnd)
	for first := range 256 {
		b := slices.Clone(good)
		b[0] = byte(first)
		if first/16 != 6 {
			refuse(t, "another upper half", b, api.ErrKind)
		} else if got := parsed(t, b); !checks.Alike(got, sized(40)) {
			t.Error(short(got))
		}
	}
	for n := 40; n < len(good); n++ {
		refuse(t, "fewer bytes than the header tells", good[:n], api.ErrEnd)
	}
	for _, size := range []uint16{41, 42, 48, 100, 256, 256 + 40, 1 << 15, 65535} {
		b := slices.Clone(good)
		binary.BigEndian.PutUint16(b[4:], size)
		refuse(t, "a length above what there is", b, api.ErrEnd)
	}
	for size := range 41 {
		b := slices.Clone(good)
		binary.BigEndian.PutUint16(b[4:], uint16(size))
		if got := parsed(t, b); !checks.Alike(got, sized(size)) {
			t.Errorf("%d: %s", size, short(got))
		}
	}
}

// P11.2: headers that are not whole, by their first bytes or by their length, wherever they stand: what stands behind the packet's length does not count.
func TestNotWhole(t *testing.T) {
	for _, ahead := range [][]extra{nil, {long(43, 0)}, {long(0, 2), long(60, 1)}, eights()[0][:7]} {
		for _, last := range []extra{long(0, 0), long(0, 1), long(43, 0), long(43, 3), long(60, 0), long(60, 255), split(0, 0, 9)} {
			if last.kind == 0 && ahead != nil {
				continue
			}
			all := append(slices.Clone(ahead), last)
			b := chained(6, nil, all...)
			has := 1 + len(last.rest)
			for missing := 1; missing <= has; missing++ {
				part := slices.Clone(b[:len(b)-missing])
				binary.BigEndian.PutUint16(part[4:], uint16(len(part)-40))
				refuse(t, "not whole", part, api.ErrEnd)
				refuse(t, "not whole, with others behind", slices.Concat(part, b[len(part):], make([]byte, 3000)), api.ErrEnd)
			}
			if got, want := parsed(t, b), ordinary(); !checks.Alike(got, want) && !checks.Alike(got, checks.Numbered(9, cut(want))) {
				t.Error(short(got))
			}
		}
	}
	for _, kind := range []byte(lengthy) {
		for n := 1; n < 256; n++ {
			b := carried(kind, append([]byte{6, byte(n)}, make([]byte, 8*n+5)...))
			refuse(t, "one byte is missing", b, api.ErrEnd)
			refuse(t, "one byte is missing, and stands behind", append(b, 0), api.ErrEnd)
		}
	}
}

// P11.2: a 0 that is not the first header.
func TestLateZero(t *testing.T) {
	for _, ahead := range [][]extra{{long(0, 0)}, {long(43, 0)}, {long(60, 255)}, {long(0, 1), long(43, 1)}, {long(43, 0), long(43, 0), long(60, 0)}, eights()[1][:7]} {
		for _, n := range []int{0, 1, 255} {
			all := append(slices.Clone(ahead), long(0, n))
			refuse(t, "a late 0", chained(6, checks.Rising(8), all...), api.ErrForm)
			refuse(t, "a late 0, with a header behind", chained(6, checks.Rising(8), append(all, long(43, 0))...), api.ErrForm)
		}
		refuse(t, "a late 0, of no bytes", chained(0, nil, ahead...), api.ErrForm)
		refuse(t, "a late 0, not whole", chained(0, []byte{6, 9}, ahead...), api.ErrForm)
	}
}

// P11.2: packets that may not be, as bytes: ErrForm.
func TestBytesThatMayNotBe(t *testing.T) {
	for _, c := range []struct {
		what string
		bits uint16
		n    int
	}{
		{"More, and one byte", 1, 1}, {"More, and 7 bytes", 1, 7}, {"More, and 9 bytes", 1, 9}, {"More, 12 bytes, an Off", 9, 12}, {"More, 65527 bytes", 1, 65527}, {"More, one byte, bits between", 7, 1},
		{"an end of 65528", 65520, 8}, {"an end of 65528, More", 65521, 8}, {"an end of 65528", 8, 65520}, {"an end of 65529", 65520, 9}, {"an end of 65535", 8, 65527}, {"an end of 65536", 65504, 32},
		{"an end of 65528, of no load", 65528, 0}, {"an end of 65528, More", 65529, 0}, {"the greatest Off, bits between", 65534, 0}, {"all bits", 65535, 0}, {"the greatest Off, a load", 65528, 1}, {"the greatest end", 65535, 65520}, {"the greatest end", 65528, 65527},
	} {
		refuse(t, c.what, chained(6, make([]byte, c.n), split(0, c.bits, 0)), api.ErrForm)
		if c.n < 60000 {
			refuse(t, c.what+", with headers", chained(6, make([]byte, c.n), long(0, 0), long(43, 255), split(0, c.bits, 0)), api.ErrForm)
			refuse(t, c.what+", with bytes behind", append(chained(6, make([]byte, c.n), split(0, c.bits, 0)), make([]byte, 7)...), api.ErrForm)
		}
	}
	for _, c := range []struct {
		bits uint16
		n    int
		want api.Packet
	}{
		{0, 1, sized(1)}, {1, 0, checks.Followed(sized(0))}, {1, 16, checks.Followed(sized(16))}, {1, 65520, checks.Followed(sized(65520))}, {8, 1, checks.At(8, sized(1))}, {9, 8, checks.At(8, checks.Followed(sized(8)))},
		{8, 65519, checks.At(8, sized(65519))}, {65520, 7, checks.At(65520, sized(7))}, {65521, 0, checks.At(65520, checks.Followed(sized(0)))}, {65513, 8, checks.At(65512, checks.Followed(sized(8)))}, {65512, 15, checks.At(65512, sized(15))},
	} {
		if got := parsed(t, chained(6, checks.Rising(c.n), split(0, c.bits, 0x12345678))); !checks.Alike(got, cut(c.want)) {
			t.Errorf("%x, %d: %s", c.bits, c.n, short(got))
		}
	}
}

// P11.2: where more than one error holds, the first that the chapter lists is told, header by header.
func TestFirstError(t *testing.T) {
	turned := func(first byte, b []byte) []byte {
		b[0] = first
		return b
	}
	less := func(b []byte) []byte { return b[:len(b)-1] }
	for _, c := range []struct {
		what string
		b    []byte
		want api.Errno
	}{
		{"39 bytes of another kind", bytes.Repeat([]byte{0x45}, 39), api.ErrEnd},
		{"one byte of another kind", []byte{0x45}, api.ErrEnd},
		{"another kind, fewer bytes than it tells", less(turned(0x45, chained(6, []byte{1}))), api.ErrKind},
		{"another kind, a header that is not whole", turned(0x70, chained(43, nil)), api.ErrKind},
		{"another kind, a late 0", turned(0x50, chained(6, nil, long(43, 0), long(0, 0))), api.ErrKind},
		{"another kind, a packet that may not be", turned(0, chained(6, []byte{1}, split(0, 1, 0))), api.ErrKind},
		{"fewer bytes than it tells, a late 0", less(chained(6, []byte{1}, long(43, 0), long(0, 0))), api.ErrEnd},
		{"fewer bytes than it tells, a ninth", less(chained(43, []byte{1}, eights()[0]...)), api.ErrEnd},
		{"fewer bytes than it tells, a packet that may not be", less(chained(6, make([]byte, 9), split(0, 1, 0))), api.ErrEnd},
		{"not whole, ahead of a late 0", chained(6, nil, extra{43, []byte{9, 0, 0, 0, 0, 0, 0}}, long(0, 0)), api.ErrEnd},
		{"a late 0, ahead of one that is not whole", chained(43, nil, long(60, 0), long(0, 0)), api.ErrForm},
		{"a late 0 that is not whole", chained(0, []byte{6}, long(60, 0)), api.ErrForm},
		{"a late 0, ahead of a ninth", chained(6, nil, append(slices.Repeat([]extra{long(60, 0)}, 7), long(0, 0), long(43, 0))...), api.ErrForm},
		{"a ninth that is a 0", chained(6, nil, append(slices.Repeat([]extra{long(60, 0)}, 8), long(0, 0))...), api.ErrMany},
		{"a ninth that is not whole", chained(60, []byte{6}, slices.Repeat([]extra{long(60, 0)}, 8)...), api.ErrMany},
		{"a ninth, of a piece that may not be", chained(6, []byte{1}, append(slices.Repeat([]extra{long(60, 0)}, 8), split(0, 1, 0))...), api.ErrMany},
		{"an eighth that is not whole, ahead of a ninth", chained(60, []byte{60}, slices.Repeat([]extra{long(60, 0)}, 7)...), api.ErrEnd},
		{"a piece's header that is not whole, of one that may not be", chained(44, []byte{0, 0, 255, 255, 0, 0, 0}), api.ErrEnd},
	} {
		refuse(t, c.what, c.b, c.want)
		if _, e := wanted(c.b); e != c.want {
			t.Errorf("%s: by the words %v", c.what, e)
		}
	}
}

// P11.2: all chains of up to three headers of each kind, each of the two shortest lengths, cut off anywhere, are parsed as the chapter's words tell.
func TestTogether(t *testing.T) {
	many := map[api.Errno]int{}
	kinds := []byte{0, 43, 44, 60, 6}
	for n := range 5 * 5 * 5 * 5 {
		for lengths := range 2 * 2 * 2 {
			for _, bits := range []byte{0, 1, 255} {
				var body []byte
				left := n / 5
				for i := range 3 {
					// A piece's header has its 16 bits where others have bytes that tell nothing.
					body = append(body, kinds[left%5], byte(lengths>>i&1), bits, bits, 1, 2, 3, 4)
					left /= 5
				}
				body = append(body, checks.Rising(10)...)
				for size := range len(body) + 1 {
					b := carried(kinds[n%5], body[:size])
					got, e := Parse(b)
					want, f := wanted(b)
					if e != f || !checks.Alike(got, want) {
						t.Fatalf("Parse(%x) = %s, %v, not %s, %v", b, short(got), e, short(want), f)
					}
					many[e]++
				}
			}
		}
	}
	for _, e := range []api.Errno{api.OK, api.ErrForm, api.ErrEnd} {
		if many[e] < 50000 {
			t.Errorf("%v: only %d", e, many[e])
		}
	}
}

// someBytes are bytes by chance, most of which are what headers are made of.
func someBytes(chance *rand.Rand) []byte {
	b := checks.Bytes(chance.Intn, 36+chance.Intn(140))
	if chance.Intn(16) == 0 || len(b) < 40 {
		return b
	}
	b[0] = 0x60 | b[0]&15
	if chance.Intn(40) == 0 {
		b[0] ^= 1 << (4 + chance.Intn(4))
	}
	size := len(b) - 40 + 1 - chance.Intn(3)
	binary.BigEndian.PutUint16(b[4:], uint16(max(size, 0)))
	next := func() byte { return "\x00\x2C\x06\x11\x2B\x3C\x2B\x3C\x2B\x3C\x2B\x3C\x2B\x3C"[chance.Intn(14)] }
	b[6] = next()
	for at := 40; at+4 <= len(b); at += 8 {
		b[at], b[at+1], b[at+3] = next(), byte(chance.Intn(12)/11), byte(chance.Intn(9))
	}
	return b
}

// R1, P11.2, P11.5: bytes by chance, most of them with headers: what is parsed is as the chapter's words tell, may be, and is laid as a packet that is parsed as it.
func TestBytesByChance(t *testing.T) {
	chance := rand.New(rand.NewSource(115))
	many := map[api.Errno]int{}
	for range 200000 {
		b := someBytes(chance)
		got, e := Parse(b)
		want, f := wanted(b)
		if e != f || !checks.Alike(got, want) {
			t.Fatalf("Parse(%x) = %s, %v, not %s, %v", b, short(got), e, short(want), f)
		}
		many[e]++
		if e != api.OK {
			continue
		}
		if again := parsed(t, laid(t, got)); !May(got) || !checks.Alike(again, got) {
			t.Fatalf("%x is parsed as %s, and laid as %s", b, short(got), short(again))
		}
	}
	for _, e := range []api.Errno{api.OK, api.ErrForm, api.ErrEnd, api.ErrMany, api.ErrKind} {
		if many[e] < 1000 {
			t.Errorf("%v: only %d", e, many[e])
		}
	}
}

// P11.5: what is parsed of bytes with headers, with others behind, is laid without them.
func TestParsedIsLaid(t *testing.T) {
	for headers := range 8 {
		b := chained(6, checks.Rising(24), append(slices.Repeat([]extra{long(60, headers)}, headers), split(77, 79, 0x12345678))...)
		copy(b, []byte{0x6A, 0xBC, 0xDE, 0xF0})
		p := parsed(t, append(b, checks.Rising(50)...))
		again := laid(t, p)
		if !May(p) || len(again) != 72 || !bytes.Equal(again[:8], []byte{0x60, 0, 0, 0, 0, 32, 44, 64}) || !checks.Alike(parsed(t, again), p) || !checks.Alike(p, checks.At(72, checks.Followed(cut(sized(24))))) {
			t.Errorf("%d headers: %s, %x", headers, short(p), again)
		}
	}
}
