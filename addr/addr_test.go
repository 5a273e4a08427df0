package addr

import (
	"bytes"
	"cmp"
	"math/rand"
	"net/netip"
	"slices"
	"strconv"
	"strings"
	"testing"

	"downhaul/api"
	"downhaul/checks"
)

// edges are addresses of both kinds: of 0s, of the greatest bytes, with one bit set or clear, and some between.
func edges() []api.Addr {
	var out []api.Addr
	for _, b := range checks.Edges() {
		out = append(out, checks.Address(b[:4]...), checks.Address(b[:]...))
	}
	return append(out, checks.Address(10, 11, 12, 13), checks.Address(192, 0, 2, 1), checks.Address(checks.Rising(16)...))
}

// groupsBy are eight groups, of which those are 0 whose bits are set; the others are great.
func groupsBy(bits int) []uint16 {
	groups := make([]uint16, 8)
	for i := range groups {
		if bits>>i&1 == 0 {
			groups[i] = 0xF0A0 + uint16(i)
		}
	}
	return groups
}

// bytesOf are the bytes of groups.
func bytesOf(groups []uint16) []byte {
	var b []byte
	for _, g := range groups {
		b = append(b, byte(g>>8), byte(g))
	}
	return b
}

// digits are the hex digits of groups, with ':' between.
func digits(groups []uint16) string {
	var texts []string
	for _, g := range groups {
		texts = append(texts, strconv.FormatInt(int64(g), 16))
	}
	return strings.Join(texts, ":")
}

// spelt is the text of eight groups by the chapter's words: of all runs of two or more 0s the longest ones are tried ahead of the others, from the front on.
func spelt(groups []uint16) string {
	for many := 8; many >= 2; many-- {
		for at := 0; at+many <= 8; at++ {
			if !slices.ContainsFunc(groups[at:at+many], func(g uint16) bool { return g != 0 }) {
				return digits(groups[:at]) + "::" + digits(groups[at+many:])
			}
		}
	}
	return digits(groups)
}

// wanted is a text's address by another reading of texts, which takes zones and mixed texts besides.
func wanted(s string) (api.Addr, api.Errno) {
	other, err := netip.ParseAddr(s)
	if err != nil || strings.Contains(s, "%") || strings.Contains(s, ":") && strings.Contains(s, ".") {
		return api.Addr{}, api.ErrForm
	}
	return checks.Address(other.AsSlice()...), api.OK
}

// read is the address of a text that must be one.
func read(t *testing.T, s string) api.Addr {
	t.Helper()
	a, e := Parse(s)
	if e != api.OK {
		t.Fatalf("Parse(%q): %v", s, e)
	}
	return a
}

// masked is an address's prefix that must be.
func masked(t *testing.T, a api.Addr, length int) api.Addr {
	t.Helper()
	got, e := Mask(a, length)
	if e != api.OK {
		t.Fatalf("Mask(%v, %d): %v", a, length, e)
	}
	return got
}

// P9.2: the chapter's example.
func TestExample(t *testing.T) {
	if got := Text(Six(0x2001, 0x0db8, 0, 0, 1, 0, 0, 1)); got != "2001:db8::1:0:0:1" {
		t.Error(got)
	}
	if got := Text(read(t, "2001:0db8:0:0:1:0:0:1")); got != "2001:db8::1:0:0:1" {
		t.Error(got)
	}
}

// P9.1: an address of four bytes, each at its place, with none behind.
func TestFour(t *testing.T) {
	if got := (api.Addr{B: [16]byte{10, 11, 12, 13}}); Four(10, 11, 12, 13) != got {
		t.Error(Four(10, 11, 12, 13))
	}
	chance := rand.New(rand.NewSource(91))
	for range 1000 {
		b := checks.Bytes(chance.Intn, 4)
		if got := Four(b[0], b[1], b[2], b[3]); got != checks.Address(b...) {
			t.Fatalf("Four(%v) = %v", b, got)
		}
	}
	for at := range 4 {
		for c := range 256 {
			var zeros, ones [4]byte
			copy(ones[:], []byte{255, 255, 255, 255})
			zeros[at], ones[at] = byte(c), byte(c)
			for _, b := range [][4]byte{zeros, ones} {
				if got := Four(b[0], b[1], b[2], b[3]); got != checks.Address(b[:]...) {
					t.Errorf("Four(%v) = %v", b, got)
				}
			}
		}
	}
}

// P9.1, R6: an address of sixteen, of no groups, of fewer than eight, of eight, and of more, which do not count.
func TestSix(t *testing.T) {
	if got := (api.Addr{Six: true, B: [16]byte{0x20, 0x01, 0x0D, 0xB8, 0, 0, 0, 0, 0, 1, 0, 0, 0, 0, 0xAB, 0xCD}}); Six(0x2001, 0xDB8, 0, 0, 1, 0, 0, 0xABCD) != got {
		t.Error(Six(0x2001, 0xDB8, 0, 0, 1, 0, 0, 0xABCD))
	}
	zero := api.Addr{Six: true}
	if Six() != zero || Six(nil...) != zero || Six([]uint16{}...) != zero || Six(0) != zero {
		t.Error(Six(), Six(nil...), Six([]uint16{}...), Six(0))
	}
	chance := rand.New(rand.NewSource(92))
	for n := range 40 {
		for range 20 {
			groups := make([]uint16, n)
			for i := range groups {
				groups[i] = uint16(chance.Uint32())
			}
			all := append(bytesOf(groups), make([]byte, 16)...)
			if got := Six(groups...); got != checks.Address(all[:16]...) {
				t.Fatalf("Six(%x) = %v", groups, got)
			}
		}
	}
	if got := Six(slices.Repeat([]uint16{0xFFFF}, 1<<20)...); got != checks.Address(bytes.Repeat([]byte{255}, 16)...) {
		t.Error(got)
	}
}

// P9.1: an address of four may be, if none of the bytes behind its fourth is another one than 0; of sixteen any may be.
func TestMay(t *testing.T) {
	for _, a := range edges() {
		if !May(a) {
			t.Errorf("%v may not be", a)
		}
	}
	for _, b := range [][]byte{{0, 0, 0, 0}, {10, 11, 12, 13}, {255, 255, 255, 255}} {
		for _, a := range checks.Unlikely(b...) {
			if May(a) {
				t.Errorf("%v may be", a)
			}
			a.Six = true
			if !May(a) {
				t.Errorf("%v may not be", a)
			}
		}
		for at := 4; at < 16; at++ {
			for c := range 256 {
				a := checks.Address(b...)
				a.B[at] = byte(c)
				if May(a) != (c == 0) {
					t.Errorf("that %v may be is %v", a, May(a))
				}
			}
		}
	}
	if !May(api.Addr{}) || !May(api.Addr{Six: true}) {
		t.Error("addresses of 0s may not be")
	}
}

// P9.1: an address has its four, or its sixteen bytes, and is that of them.
func TestBytes(t *testing.T) {
	for _, a := range edges() {
		want := a.B[:4]
		if a.Six {
			want = a.B[:]
		}
		got := Bytes(a)
		if !bytes.Equal(got, want) {
			t.Errorf("Bytes(%v) = %x", a, got)
		}
		if back, e := Of(got); back != a || e != api.OK {
			t.Errorf("Of(%x) = %v, %v, not %v", got, back, e, a)
		}
	}
	for _, a := range checks.Unlikely(10, 11, 12, 13) {
		if got := Bytes(a); !bytes.Equal(got, []byte{10, 11, 12, 13}) {
			t.Errorf("Bytes(%v) = %x", a, got)
		}
	}
	chance := rand.New(rand.NewSource(93))
	for range 1000 {
		for _, n := range []int{4, 16} {
			b := checks.Bytes(chance.Intn, n)
			a, e := Of(b)
			if a != checks.Address(b...) || e != api.OK || !bytes.Equal(Bytes(a), b) {
				t.Fatalf("Of(%x) = %v, %v, whose bytes are %x", b, a, e, Bytes(a))
			}
		}
	}
}

// P9.1: of any other number of bytes: ErrArg, and nothing besides.
func TestWrongBytes(t *testing.T) {
	lists := [][]byte{nil, {}, make([]byte, 0, 4), make([]byte, 3, 16), make([]byte, 256+4), make([]byte, 256+16), make([]byte, 1<<16+4), make([]byte, 1<<16+16)}
	for n := range 300 {
		if n != 4 && n != 16 {
			lists = append(lists, make([]byte, n), bytes.Repeat([]byte{255}, n))
		}
	}
	for _, b := range lists {
		if a, e := Of(b); a != (api.Addr{}) || e != api.ErrArg {
			t.Errorf("Of %d bytes: %v, %v", len(b), a, e)
		}
	}
}

// P9.2, P9.4: known texts, which are written so, and read so.
func TestKnownTexts(t *testing.T) {
	for _, c := range []struct {
		a    api.Addr
		want string
	}{
		{checks.Address(0, 0, 0, 0), "0.0.0.0"},
		{checks.Address(1, 20, 200, 0), "1.20.200.0"},
		{checks.Address(9, 10, 99, 100), "9.10.99.100"},
		{checks.Address(127, 0, 0, 1), "127.0.0.1"},
		{checks.Address(192, 0, 2, 235), "192.0.2.235"},
		{checks.Address(224, 0, 0, 1), "224.0.0.1"},
		{checks.Address(255, 255, 255, 255), "255.255.255.255"},
		// No run of groups 0, and groups of one to four digits.
		{Six(0xFFFF, 0xFFFF, 0xFFFF, 0xFFFF, 0xFFFF, 0xFFFF, 0xFFFF, 0xFFFF), "ffff:ffff:ffff:ffff:ffff:ffff:ffff:ffff"},
		{Six(1, 0x23, 0x456, 0x789A, 0xB, 0xCD, 0xEF0, 0x1234), "1:23:456:789a:b:cd:ef0:1234"},
		{Six(0x10, 0x100, 0x1000, 0xF, 0xFF, 0xFFF, 0xA0, 0xB0C), "10:100:1000:f:ff:fff:a0:b0c"},
		// Runs of one.
		{Six(0x2001, 0xDB8, 0, 1, 1, 1, 1, 1), "2001:db8:0:1:1:1:1:1"},
		{Six(0, 1, 2, 3, 4, 5, 6, 7), "0:1:2:3:4:5:6:7"},
		{Six(1, 2, 3, 4, 5, 6, 7, 0), "1:2:3:4:5:6:7:0"},
		{Six(0, 1, 0, 1, 0, 1, 0, 1), "0:1:0:1:0:1:0:1"},
		{Six(1, 0, 1, 0, 1, 0, 1, 0), "1:0:1:0:1:0:1:0"},
		// Runs of two and more: at the front, in the midst, at the end, and all.
		{Six(0, 0, 1, 2, 3, 4, 5, 6), "::1:2:3:4:5:6"},
		{Six(1, 2, 3, 0, 0, 4, 5, 6), "1:2:3::4:5:6"},
		{Six(1, 2, 3, 4, 5, 6), "1:2:3:4:5:6::"},
		{Six(0, 0, 0, 0, 0, 0, 0, 1), "::1"},
		{Six(0, 0, 0, 0, 0, 0, 1, 0), "::1:0"},
		{Six(1), "1::"},
		{Six(0, 1), "0:1::"},
		{Six(), "::"},
		// Two as long as each other, a longer one behind, a longer one ahead.
		{Six(0x2001, 0xDB8, 0, 0, 1, 0, 0, 1), "2001:db8::1:0:0:1"},
		{Six(0, 0, 1, 1, 1, 1, 0, 0), "::1:1:1:1:0:0"},
		{Six(0, 0, 0, 1, 1, 0, 0, 0), "::1:1:0:0:0"},
		{Six(0, 0, 1, 0, 0, 1, 0, 0), "::1:0:0:1:0:0"},
		{Six(0x2001, 0xDB8, 0, 0, 1), "2001:db8:0:0:1::"},
		{Six(0x2001, 0, 0, 1, 0, 0, 0, 1), "2001:0:0:1::1"},
		{Six(0, 0, 1, 0, 0, 0, 1, 1), "0:0:1::1:1"},
		{Six(0, 1, 0, 0, 1, 0, 0, 0), "0:1:0:0:1::"},
		{Six(0x2001, 0, 0, 0, 1, 0, 0, 1), "2001::1:0:0:1"},
		// Those that others write with numbers of four at their end are written in groups as well.
		{Six(0, 0, 0, 0, 0, 0xFFFF, 0xC000, 0x0280), "::ffff:c000:280"},
		{Six(0x64, 0xFF9B, 0, 0, 0, 0, 0xC000, 0x0280), "64:ff9b::c000:280"},
		{Six(0, 0, 0, 0, 0, 0, 0x0D01, 0x4403), "::d01:4403"},
		{Six(0xFE80, 0, 0, 0, 0x0202, 0xB3FF, 0xFE1E, 0x8329), "fe80::202:b3ff:fe1e:8329"},
	} {
		if got := Text(c.a); got != c.want {
			t.Errorf("Text(%v) = %q, not %q", c.a, got, c.want)
		}
		if got, e := Parse(c.want); got != c.a || e != api.OK {
			t.Errorf("Parse(%q) = %v, %v, not %v", c.want, got, e, c.a)
		}
	}
}

// P9.2, P9.4: groups 0 at all places that there are, and others among them, with any digits.
func TestTextOfRuns(t *testing.T) {
	chance := rand.New(rand.NewSource(94))
	for bits := range 256 {
		for range 20 {
			groups := groupsBy(bits)
			a := Six(groups...)
			if got := Text(a); got != spelt(groups) {
				t.Fatalf("Text of %x = %q, not %q", groups, got, spelt(groups))
			}
			if got := read(t, Text(a)); got != a {
				t.Fatalf("%q is read as %v", Text(a), got)
			}
			for i, g := range groups {
				groups[i] = min(g, 1) * uint16(1+chance.Intn(0xFFFF)>>(4*chance.Intn(4)))
			}
			a = Six(groups...)
			if other := netip.AddrFrom16(a.B); Text(a) != other.String() && !other.Is4In6() || Text(a) != spelt(groups) {
				t.Fatalf("Text of %x = %q, not %q, %q", groups, Text(a), spelt(groups), other)
			}
			if got := read(t, Text(a)); got != a {
				t.Fatalf("%q is read as %v", Text(a), got)
			}
		}
	}
}

// P9.2, P9.4: each group, at each place, as its digits, small and great, with zeros ahead and without.
func TestEachGroup(t *testing.T) {
	for g := range 1 << 16 {
		at := g % 8
		groups := groupsBy(0)
		groups[at] = uint16(g)
		texts := strings.Split(digits(groups), ":")
		a := Six(groups...)
		if got := Text(a); got != strings.Join(texts, ":") {
			t.Fatalf("Text of %x = %q", groups, got)
		}
		for len(texts[at]) <= 4 {
			for _, s := range []string{strings.Join(texts, ":"), strings.ToUpper(strings.Join(texts, ":"))} {
				if got := read(t, s); got != a {
					t.Fatalf("Parse(%q) = %v, not %v", s, got, a)
				}
			}
			texts[at] = "0" + texts[at]
		}
		if got, e := Parse(strings.Join(texts, ":")); got != (api.Addr{}) || e != api.ErrForm {
			t.Fatalf("Parse of a group of five digits, %q: %v, %v", texts[at], got, e)
		}
	}
}

// P9.2, P9.4: each byte, at each place, as its digits.
func TestEachNumber(t *testing.T) {
	for at := range 4 {
		for c := range 256 {
			b, texts := []byte{1, 22, 133, 255}, []string{"1", "22", "133", "255"}
			b[at], texts[at] = byte(c), strconv.Itoa(c)
			want := strings.Join(texts, ".")
			if got := Text(checks.Address(b...)); got != want {
				t.Errorf("Text(%v) = %q", b, got)
			}
			if got := read(t, want); got != checks.Address(b...) {
				t.Errorf("Parse(%q) = %v", want, got)
			}
		}
	}
	for _, a := range checks.Unlikely(10, 20, 130, 4) {
		if got := Text(a); got != "10.20.130.4" {
			t.Errorf("Text(%v) = %q", a, got)
		}
	}
}

// P9.2: numbers above 255, and with zeros ahead, at each place.
func TestWrongNumbers(t *testing.T) {
	wrong := []string{"00", "000", "0000", "256", "257", "300", "511", "512", "999", "1000", "1024", "65536", "65791", "4294967296", "4294967297", "18446744073709551616", "18446744073709551617", "0x1", "1e1", "1_0", "a", "f", "01.", ".1"}
	for c := range 256 {
		wrong = append(wrong, "0"+strconv.Itoa(c), "00"+strconv.Itoa(c), strconv.Itoa(c+256), strconv.Itoa(c+512), strconv.Itoa(c+1<<32))
	}
	for at := range 4 {
		for _, number := range wrong {
			texts := []string{"1", "22", "133", "255"}
			texts[at] = number
			s := strings.Join(texts, ".")
			if got, e := Parse(s); got != (api.Addr{}) || e != api.ErrForm {
				t.Errorf("Parse(%q) = %v, %v", s, got, e)
			}
		}
	}
}

// P9.2: texts of sixteen that are no written ones: '::' at the front, in the midst, at the end, alone, for one group and for more.
func TestReadTexts(t *testing.T) {
	for _, c := range []struct {
		s    string
		want api.Addr
	}{
		{"::", Six()},
		{"0::", Six()}, {"::0", Six()}, {"0::0", Six()}, {"0:0:0:0:0:0:0:0", Six()}, {"0000:0000:0000:0000:0000:0000:0000:0000", Six()},
		{"::2:3:4:5:6:7:8", Six(0, 2, 3, 4, 5, 6, 7, 8)},
		{"1::3:4:5:6:7:8", Six(1, 0, 3, 4, 5, 6, 7, 8)},
		{"1:2:3:4:5:6::8", Six(1, 2, 3, 4, 5, 6, 0, 8)},
		{"1:2:3:4:5:6:7::", Six(1, 2, 3, 4, 5, 6, 7)},
		{"::8", Six(0, 0, 0, 0, 0, 0, 0, 8)}, {"::7:8", Six(0, 0, 0, 0, 0, 0, 7, 8)}, {"1::", Six(1)}, {"1:2::", Six(1, 2)}, {"1::8", Six(1, 0, 0, 0, 0, 0, 0, 8)},
		{"0:0:1::0:0", Six(0, 0, 1)}, {"1:0:0:2::", Six(1, 0, 0, 2)},
		{"2001:0DB8:0:0:1:0:0:1", Six(0x2001, 0xDB8, 0, 0, 1, 0, 0, 1)},
		{"2001:DB8:0:0:1::1", Six(0x2001, 0xDB8, 0, 0, 1, 0, 0, 1)},
		{"AbCd:eF01:00ff:000a::", Six(0xABCD, 0xEF01, 0xFF, 0xA)},
		{"FF02::1:FF00:0", Six(0xFF02, 0, 0, 0, 0, 1, 0xFF00, 0)},
	} {
		if got, e := Parse(c.s); got != c.want || e != api.OK {
			t.Errorf("Parse(%q) = %v, %v, not %v", c.s, got, e, c.want)
		}
	}
	// Any number of groups ahead of '::', and any behind it: seven at most.
	for ahead := range 10 {
		for behind := range 10 {
			groups := []uint16{0x11, 0x22, 0x33, 0x44, 0x55, 0x66, 0x77, 0x88, 0x99}
			s := digits(groups[:ahead]) + "::" + digits(groups[:behind])
			got, e := Parse(s)
			if ahead+behind > 7 {
				if got != (api.Addr{}) || e != api.ErrForm {
					t.Errorf("Parse(%q) = %v, %v", s, got, e)
				}
				continue
			}
			want := slices.Concat(groups[:ahead], make([]uint16, 8-ahead-behind), groups[:behind])
			if got != Six(want...) || e != api.OK {
				t.Errorf("Parse(%q) = %v, %v, not of %x", s, got, e, want)
			}
		}
		if got, e := Parse(digits(make([]uint16, ahead))); (e == api.OK) != (ahead == 8) || got != (api.Addr{Six: ahead == 8}) {
			t.Errorf("Parse of %d groups = %v, %v", ahead, got, e)
		}
	}
}

// P9.2: texts that are none: ErrForm, and nothing besides.
func TestWrongTexts(t *testing.T) {
	for _, s := range []string{
		"", " ", ".", "..", "...", "....", ":", "-", "/", "a", "1", "10", "localhost",
		// Fewer numbers, more, and none between.
		"1.2", "1.2.3", "1.2.3.4.5", "1.2.3.4.", ".1.2.3.4", "1..3.4", ".2.3.4", "1.2.3.", "1.2.3..4", "1.2..3.4", "16909060",
		// Signs, blanks, and other bytes.
		"+1.2.3.4", "-1.2.3.4", "1.+2.3.4", "1.2.3.-4", "1.2.3.-0", "1.2.3.+0", " 1.2.3.4", "1.2.3.4 ", "1. 2.3.4", "1.2 .3.4", "1,2,3,4", "1.2.3.4/8", "1.2.3.4:5", "1.2.3.4\n", "\t1.2.3.4", "1.2.3.4\x00", "1.2.3.a", "1.2.3.0x4", "1.2.3.4%eth0",
		"1.2.3.\u0664", "\uFF11.2.3.4", "1\u30022\u30023\u30024", "1.2.3.\xFF", "\xFF.2.3.4",
		// Groups of no digit, or of five, and no digits.
		"1:2:3:4:5:6:7:", ":1:2:3:4:5:6:7", "1:2:3::5:6:7:", ":2:3::5:6:7:8", "12345::", "::12345", "00000::", "::00001", "1:2:3:4:5:6:7:00008", "::g", "::G", "g::", "::fffg", "::0x1", "0x1::", "::-1", "::+1", "-1::", ":: 1", " ::", ":: ", "::1 ", " ::1", "::1\n", "::\x00", "::_", "::1_0", "::\u0661", "::\xFF", "::ff\xFF", "1;2;3;4;5;6;7;8", "1.2.3.4.5.6.7.8",
		// Fewer groups than eight, more, eight and '::'.
		"1:2", "1:2:3:4:5:6:7", "1:2:3:4:5:6:7:8:9", "0:0:0:0:0:0:0", "0:0:0:0:0:0:0:0:0", "1:2:3:4:5:6:7:8::", "::1:2:3:4:5:6:7:8", "1:2:3:4::5:6:7:8", "1:2:3:4:5:6:7::8", "1::2:3:4:5:6:7:8", "1:2:3:4:5::6:7:8:9",
		// Two '::', ':' at an end, ':::'.
		"1::2::3", "::1::", "::::", ":::::", "1::::2", "::1:2::", "1::2:3::4", ":::", ":::1", "1:::", "1:::2", "1:2:::3", ":1", "1:", ":1::", "::1:", ":1::2", "1::2:", ":1:2:3:4:5:6:7:8", "1:2:3:4:5:6:7:8:",
		// Numbers of four at the end, zones, brackets, lengths: others take them.
		"::1.2.3.4", "::ffff:1.2.3.4", "64:ff9b::192.0.2.33", "1:2:3:4:5:6:1.2.3.4", "1.2.3.4::", "1.2.3.4:1:2:3:4:5:6", "fe80::1%eth0", "fe80::1%", "%", "::%1", "[::1]", "[::]", "::/0", "::1/128",
	} {
		if got, e := Parse(s); got != (api.Addr{}) || e != api.ErrForm {
			t.Errorf("Parse(%q) = %v, %v", s, got, e)
		}
		if _, e := wanted(s); e != api.ErrForm {
			t.Errorf("%q: the other reading takes it", s)
		}
	}
}

// R1, P9.2: long texts are none, whatever they are made of.
func TestLongTexts(t *testing.T) {
	for _, piece := range []string{"0", "1", "f", ".", ":", "::", "0.", "1:", ":1", "1::", "1.2.3.4", "1.2.3.4.", "::1", "0:0:0:0:0:0:0:0", "0:0:0:0:0:0:0:0:", " ", "\x00", "\xFF", "-1", "\U0001F310"} {
		for _, n := range []int{40, 1000, 1 << 20} {
			if got, e := Parse(strings.Repeat(piece, n)); got != (api.Addr{}) || e != api.ErrForm {
				t.Errorf("Parse of %q %d times = %v, %v", piece, n, got, e)
			}
		}
		for _, s := range []string{"1.2.3.", "1:2:3:4:5:6:7:", "::", "1.2.3.4", "::1"} {
			for _, s := range []string{s + strings.Repeat(piece, 1<<10), strings.Repeat(piece, 1<<10) + s} {
				if got, e := Parse(s); got != (api.Addr{}) || e != api.ErrForm {
					t.Errorf("Parse(%.20q ..) = %v, %v", s, got, e)
				}
			}
		}
	}
}

// meet holds the reading of a text against the other reading.
func meet(t *testing.T, s string) {
	t.Helper()
	got, e := Parse(s)
	want, f := wanted(s)
	if got != want || e != f {
		t.Fatalf("Parse(%q) = %v, %v, not %v, %v", s, got, e, want, f)
	}
}

// P9.2: all short texts of some letters, and each byte at each place of a text.
func TestAllShortTexts(t *testing.T) {
	for _, c := range []struct {
		letters string
		longest int
	}{{"0a:.", 9}, {"1:", 16}, {"05.", 10}, {"26.", 10}} {
		texts := []string{""}
		for n := 0; n <= c.longest; n++ {
			var next []string
			for _, s := range texts {
				meet(t, s)
				for _, r := range c.letters {
					if n < c.longest {
						next = append(next, s+string(r))
					}
				}
			}
			texts = next
		}
	}
	for _, s := range []string{"1.2.3.4", "25.249.10.0", "::", "1::2", "12:34:56:78:9a:bc:de:f0", "ffff::eeee:dddd"} {
		for at := range len(s) + 1 {
			for c := range 256 {
				meet(t, s[:at]+string([]byte{byte(c)})+s[at:])
				if at < len(s) {
					meet(t, s[:at]+string([]byte{byte(c)})+s[at+1:])
				}
			}
		}
	}
}

// P9.2: texts by chance, with bytes turned, put in, and taken out.
func TestTurnedTexts(t *testing.T) {
	chance := rand.New(rand.NewSource(95))
	const letters = "00112459afAFgG.:::.-+% /x"
	taken := 0
	for range 200000 {
		s := []byte(Text(checks.AnyAddress(chance.Intn)))
		for range chance.Intn(4) {
			at := chance.Intn(len(s) + 1)
			switch chance.Intn(3) {
			case 0:
				s = slices.Insert(s, at, letters[chance.Intn(len(letters))])
			case 1:
				s = slices.Delete(s, at, min(at+1+chance.Intn(3), len(s)))
			case 2:
				if at < len(s) {
					s[at] = letters[chance.Intn(len(letters))]
				}
			}
		}
		meet(t, string(s))
		if _, e := Parse(string(s)); e == api.OK {
			taken++
		}
	}
	if taken < 50000 || taken > 150000 {
		t.Errorf("%d texts were read", taken)
	}
}

// P9.4: a text is read as its address; what is read is written as a text that is read as it, small and short.
func TestTextsOfAll(t *testing.T) {
	chance := rand.New(rand.NewSource(96))
	all := edges()
	for range 20000 {
		all = append(all, checks.AnyAddress(chance.Intn))
	}
	for _, a := range all {
		s := Text(a)
		if got := read(t, s); got != a {
			t.Fatalf("Text(%v) = %q, which is read as %v", a, s, got)
		}
		if s != strings.ToLower(s) || len(s) > 39 {
			t.Fatalf("Text(%v) = %q", a, s)
		}
		if !a.Six {
			continue
		}
		var long []string
		for i := 0; i < 16; i += 2 {
			long = append(long, strings.ToUpper(strconv.FormatInt(0x10000+int64(a.B[i])<<8+int64(a.B[i+1]), 16)[1:]))
		}
		if got := read(t, strings.Join(long, ":")); got != a || Text(got) != s {
			t.Fatalf("Parse(%q) = %v, written %q, not %q", strings.Join(long, ":"), got, Text(got), s)
		}
	}
}

// P9.3: known prefixes.
func TestKnownPrefixes(t *testing.T) {
	for _, c := range []struct {
		a, prefix string
		length    int
		want      bool
	}{
		{"10.1.2.3", "10.0.0.0", 8, true}, {"11.1.2.3", "10.0.0.0", 8, false}, {"10.1.2.3", "10.0.0.0", 16, false}, {"10.1.2.3", "10.9.9.9", 8, true},
		{"10.1.2.3", "10.1.2.3", 32, true}, {"10.1.2.3", "10.1.2.2", 32, false}, {"10.1.2.3", "10.1.2.2", 31, true},
		{"172.31.255.255", "172.16.0.0", 12, true}, {"172.32.0.0", "172.16.0.0", 12, false}, {"172.15.255.255", "172.16.0.0", 12, false},
		{"128.0.0.0", "127.255.255.255", 0, true}, {"128.0.0.0", "127.255.255.255", 1, false}, {"255.255.255.255", "128.0.0.0", 1, true},
		{"2001:db8::1", "2001:db8::", 32, true}, {"2001:db9::1", "2001:db8::", 32, false}, {"2001:db9::1", "2001:db8::", 31, true},
		{"fe80::1", "fe80::", 10, true}, {"febf:ffff::1", "fe80::", 10, true}, {"fec0::1", "fe80::", 10, false},
		{"::1", "::", 127, true}, {"::1", "::", 128, false}, {"::1", "::1", 128, true}, {"ffff::", "::", 0, true},
		{"::", "0.0.0.0", 0, false}, {"0.0.0.0", "::", 0, false}, {"::", "0.0.0.0", 32, false}, {"0.0.0.0", "::", 32, false}, {"a00::", "10.0.0.0", 8, false}, {"10.0.0.0", "a00::", 8, false},
	} {
		if got := Lies(read(t, c.a), read(t, c.prefix), c.length); got != c.want {
			t.Errorf("Lies(%s, %s, %d) = %v", c.a, c.prefix, c.length, got)
		}
	}
	for _, c := range []struct {
		a      string
		length int
		want   string
	}{
		{"10.1.2.3", 8, "10.0.0.0"}, {"10.1.2.3", 32, "10.1.2.3"}, {"10.1.2.3", 31, "10.1.2.2"}, {"255.255.255.255", 0, "0.0.0.0"}, {"255.255.255.255", 1, "128.0.0.0"}, {"255.255.255.255", 19, "255.255.224.0"}, {"172.31.255.255", 12, "172.16.0.0"},
		{"2001:db8:1:2:3:4:5:6", 32, "2001:db8::"}, {"2001:db8:1:2:3:4:5:6", 128, "2001:db8:1:2:3:4:5:6"}, {"ffff:ffff::", 0, "::"}, {"febf:ffff::1", 10, "fe80::"}, {"::ffff:ffff:ffff", 81, "::8000:0:0"}, {"::ffff", 127, "::fffe"},
	} {
		if got := masked(t, read(t, c.a), c.length); Text(got) != c.want {
			t.Errorf("Mask(%s, %d) = %s, not %s", c.a, c.length, Text(got), c.want)
		}
	}
}

// P9.3: masks of each length keep that many bits, and no more, of all sixteen bytes.
func TestMask(t *testing.T) {
	all := slices.Concat(edges(), checks.Unlikely(255, 255, 255, 255), checks.Unlikely(0, 0, 0, 0))
	for _, a := range all {
		for length := range checks.Longest(a) + 1 {
			want := checks.Masked(a, length)
			if got := masked(t, a, length); got != want {
				t.Fatalf("Mask(%v, %d) = %v, not %v", a, length, got, want)
			}
			if other, err := netip.AddrFrom16(a.B).Prefix(length); a.Six && (err != nil || other.Addr().As16() != want.B) {
				t.Fatalf("%v, %d: %v, but %v", a, length, want, other)
			}
		}
	}
}

// P9.3: with one bit turned an address lies in all prefixes of it that are no longer than up to that bit.
func TestEachBit(t *testing.T) {
	for _, b := range checks.Edges() {
		for _, a := range []api.Addr{checks.Address(b[:4]...), checks.Address(b[:]...)} {
			for bit := range checks.Longest(a) {
				turned := checks.Turned(a, bit)
				for length := range checks.Longest(a) + 1 {
					if Lies(turned, a, length) != (length <= bit) || Lies(a, turned, length) != (length <= bit) {
						t.Fatalf("%v, and with the bit %d turned: %d", a, bit, length)
					}
				}
			}
		}
	}
}

// P9.3: bytes behind the fourth do not count in whether an address of four lies in a prefix.
func TestBehindTheFourth(t *testing.T) {
	a := checks.Address(10, 11, 12, 13)
	for _, other := range checks.Unlikely(10, 11, 12, 13) {
		for length := range 33 {
			if !Lies(a, other, length) || !Lies(other, a, length) || masked(t, other, length) != masked(t, a, length) {
				t.Errorf("%v, %v, %d", a, other, length)
			}
		}
	}
}

// P9.3: lengths that no prefix has, and prefixes of the other kind.
func TestWrongLengths(t *testing.T) {
	all := slices.Concat(edges(), checks.Unlikely(10, 11, 12, 13))
	for _, a := range all {
		for _, length := range checks.WrongLengths(a) {
			if got, e := Mask(a, length); got != (api.Addr{}) || e != api.ErrArg {
				t.Errorf("Mask(%v, %d) = %v, %v", a, length, got, e)
			}
			if Lies(a, a, length) {
				t.Errorf("Lies(%v, %v, %d)", a, a, length)
			}
		}
		other := checks.OtherKind(a)
		for length := -1; length <= 130; length++ {
			if Lies(a, other, length) || Lies(a, api.Addr{Six: !a.Six}, length) || Lies(api.Addr{Six: !a.Six}, a, length) {
				t.Errorf("%v and one of the other kind: %d", a, length)
			}
		}
		for _, length := range checks.WrongLengths(a) {
			if Lies(a, other, length) || Lies(other, a, length) {
				t.Errorf("%v and one of the other kind: %d", a, length)
			}
		}
	}
}

// P9.3, P9.5, P9.6: prefixes by chance: what is masked lies in its prefix, and is masked to itself; what lies in a longer one lies in a shorter one.
func TestPrefixes(t *testing.T) {
	chance := rand.New(rand.NewSource(97))
	for range 20000 {
		a, prefix := checks.AnyAddress(chance.Intn), checks.AnyAddress(chance.Intn)
		if alike := chance.Intn(checks.Longest(a)); a.Six == prefix.Six {
			for bit := range alike {
				if (a.B[bit/8]^prefix.B[bit/8])>>(7-bit%8)&1 != 0 {
					prefix = checks.Turned(prefix, bit)
				}
			}
		}
		length := chance.Intn(checks.Longest(a) + 1)
		got := masked(t, a, length)
		if !Lies(a, got, length) || !Lies(got, got, length) || !Lies(got, a, length) {
			t.Fatalf("%v, masked to %d as %v, does not lie in it", a, length, got)
		}
		if masked(t, got, length) != got || !May(got) {
			t.Fatalf("%v, masked to %d as %v, is not masked to itself", a, length, got)
		}
		for n := -2; n <= checks.Longest(a)+2; n++ {
			in := Lies(a, prefix, n)
			if in != checks.Lies(a, prefix, n) {
				t.Fatalf("Lies(%v, %v, %d) = %v", a, prefix, n, in)
			}
			if in && n > 0 && !Lies(a, prefix, n-1) {
				t.Fatalf("%v lies in %v up to %d, but not up to %d", a, prefix, n, n-1)
			}
			if shorter := min(n, length); shorter >= 0 && masked(t, got, shorter) != masked(t, a, shorter) {
				t.Fatalf("%v, masked to %d, then to %d", a, length, shorter)
			}
		}
	}
}

// P9.3: addresses in order: those of four, then those of sixteen; of each kind by their first byte that differs.
func TestOrder(t *testing.T) {
	rising := []api.Addr{
		checks.Address(0, 0, 0, 0), checks.Address(0, 0, 0, 1), checks.Address(0, 0, 0, 127), checks.Address(0, 0, 0, 128), checks.Address(0, 0, 0, 255), checks.Address(0, 0, 1, 0), checks.Address(0, 1, 0, 0),
		checks.Address(9, 255, 255, 255), checks.Address(10, 0, 0, 0), checks.Address(10, 0, 0, 1), checks.Address(10, 0, 1, 0), checks.Address(127, 0, 0, 1), checks.Address(128, 0, 0, 0), checks.Address(255, 255, 255, 254), checks.Address(255, 255, 255, 255),
		Six(), Six(0, 0, 0, 0, 0, 0, 0, 1), Six(0, 0, 0, 0, 0, 0, 0, 0xFF), Six(0, 0, 0, 0, 0, 0, 0, 0x100), Six(0, 0, 0, 0, 0, 0, 1, 0), Six(0, 0, 0, 1), Six(0, 1), Six(1), Six(0xA00),
		Six(0x2001, 0xDB8), Six(0x2001, 0xDB8, 0, 0, 0, 0, 0, 1), Six(0x2001, 0xDB9), Six(0x7FFF, 0xFFFF), Six(0x8000),
		Six(0xFFFF, 0xFFFF, 0xFFFF, 0xFFFF, 0xFFFF, 0xFFFF, 0xFFFF, 0xFFFE), Six(0xFFFF, 0xFFFF, 0xFFFF, 0xFFFF, 0xFFFF, 0xFFFF, 0xFFFF, 0xFFFF),
	}
	for i, a := range rising {
		for j, b := range rising {
			if got := Compare(a, b); got != cmp.Compare(i, j) {
				t.Errorf("Compare(%v, %v) = %d, not %d", a, b, got, cmp.Compare(i, j))
			}
		}
	}
}

// byNetip is an address as package netip has it, which knows no bytes behind the fourth of one of four.
func byNetip(a api.Addr) netip.Addr {
	if a.Six {
		return netip.AddrFrom16(a.B)
	}
	return netip.AddrFrom4([4]byte(a.B[:4]))
}

// P9.3: -1, 0 or 1 by the kinds and the bytes, the other way about turned; of two that differ in one byte alone by it, also where it is the first or the last one.
func TestCompare(t *testing.T) {
	// Package netip has addresses of four ahead, too.
	order := func(a, b api.Addr) int { return byNetip(a).Compare(byNetip(b)) }
	hold := func(a, b api.Addr) {
		if Compare(a, b) != order(a, b) || Compare(b, a) != -order(a, b) {
			t.Fatalf("Compare(%v, %v) = %d, and turned %d", a, b, Compare(a, b), Compare(b, a))
		}
		if same := a.Six == b.Six && bytes.Equal(Bytes(a), Bytes(b)); (Compare(a, b) == 0) != same {
			t.Fatalf("Compare(%v, %v) = %d", a, b, Compare(a, b))
		}
	}
	chance := rand.New(rand.NewSource(98))
	all := edges()
	for _, a := range all {
		for _, b := range all {
			hold(a, b)
		}
		for at := range checks.Longest(a) / 8 {
			for range 20 {
				b := a
				b.B[at] = byte(chance.Intn(256))
				hold(a, b)
			}
		}
	}
	for range 20000 {
		hold(checks.AnyAddress(chance.Intn), checks.AnyAddress(chance.Intn))
	}
	// Bytes behind the fourth are none of an address of four, but are of one of sixteen.
	dirty := slices.Concat(checks.Unlikely(10, 0, 0, 1), checks.Unlikely(10, 0, 0, 2), []api.Addr{checks.Address(10, 0, 0, 1), checks.Address(10, 0, 0, 2)})
	for _, a := range slices.Clone(dirty) {
		a.Six = true
		dirty = append(dirty, a)
	}
	for _, a := range dirty {
		for _, b := range dirty {
			hold(a, b)
		}
	}
	list := slices.Concat(all, dirty)
	chance.Shuffle(len(list), func(i, j int) { list[i], list[j] = list[j], list[i] })
	slices.SortFunc(list, Compare)
	for i, a := range list {
		for _, b := range list[i:] {
			if order(a, b) > 0 {
				t.Fatalf("%v stands ahead of %v", a, b)
			}
		}
	}
}

// P9.3: addresses of four which differ behind their fourth byte alone are the same, and stand where their four bytes tell; of sixteen all bytes count.
func TestCompareBehindTheFourth(t *testing.T) {
	less, a, more := checks.Address(10, 1, 1, 9), checks.Address(10, 1, 1, 10), checks.Address(10, 1, 1, 11)
	six := Six(0x0A01, 0x010A)
	odd := checks.Unlikely(10, 1, 1, 10)
	for _, b := range odd {
		sixth := b
		sixth.Six = true
		for _, c := range []struct {
			a, b api.Addr
			want int
		}{
			{a, b, 0}, {b, b, 0}, {b, less, 1}, {b, more, -1}, {b, Six(), -1}, {b, six, -1}, {b, sixth, -1}, {six, sixth, -1}, {sixth, sixth, 0},
		} {
			if Compare(c.a, c.b) != c.want || Compare(c.b, c.a) != -c.want {
				t.Errorf("Compare(%v, %v) = %d, and turned %d, not %d", c.a, c.b, Compare(c.a, c.b), Compare(c.b, c.a), c.want)
			}
		}
		for _, c := range odd {
			if Compare(b, c) != 0 {
				t.Errorf("Compare(%v, %v) = %d", b, c, Compare(b, c))
			}
		}
	}
}

// P9.3: the first and the last of many, and those beside them.
func TestIsGroup(t *testing.T) {
	for _, c := range []struct {
		s    string
		want bool
	}{
		{"0.0.0.0", false}, {"10.0.0.1", false}, {"223.255.255.255", false}, {"224.0.0.0", true}, {"224.0.0.1", true}, {"232.1.2.3", true}, {"239.255.255.255", true},
		{"240.0.0.0", false}, {"255.255.255.255", false}, {"255.0.0.0", false}, {"0.224.0.0", false},
		{"::", false}, {"::1", false}, {"e000::", false}, {"e000:1::", false}, {"efff::", false}, {"fe80::1", false}, {"feff:ffff:ffff:ffff:ffff:ffff:ffff:ffff", false},
		{"ff00::", true}, {"ff02::1", true}, {"ffff:ffff:ffff:ffff:ffff:ffff:ffff:ffff", true}, {"ff::", false}, {"::ff", false}, {"::ff00:0", false},
	} {
		if got := IsGroup(read(t, c.s)); got != c.want {
			t.Errorf("IsGroup(%s) = %v", c.s, got)
		}
	}
	chance := rand.New(rand.NewSource(99))
	for first := range 256 {
		for range 50 {
			a := checks.AnyAddress(chance.Intn)
			a.B[0] = byte(first)
			if got, want := IsGroup(a), !a.Six && 224 <= first && first <= 239 || a.Six && first == 255; got != want {
				t.Fatalf("IsGroup(%v) = %v", a, got)
			}
		}
	}
	for _, a := range checks.Unlikely(224, 0, 0, 1) {
		if !IsGroup(a) {
			t.Errorf("%v is none of many", a)
		}
	}
	for _, a := range checks.Unlikely(255, 0, 0, 1) {
		if IsGroup(a) {
			t.Errorf("%v is one of many", a)
		}
	}
}

// told is all that the calls tell of two addresses, a length, and a text.
func told(a, b api.Addr, length int, s string) [9]any {
	of, e := Of(Bytes(a))
	parsed, f := Parse(s)
	first, g := Mask(a, length)
	return [9]any{
		[2]any{of, e}, [2]any{parsed, f}, [2]any{first, g}, Text(a), May(a), Lies(a, b, length), Compare(a, b), IsGroup(a), string(Bytes(b)),
	}
}

// R3, R7: calls in any order, and again, wrong ones among them, answer the same.
func TestAnyOrder(t *testing.T) {
	type question struct {
		a, b   api.Addr
		length int
		s      string
	}
	chance := rand.New(rand.NewSource(100))
	list := slices.Concat(edges(), checks.Unlikely(10, 0, 0, 1))
	texts := []string{"", "1.2.3.4", "1.2.3.256", "::", ":::", "1::2", "2001:DB8::", "x"}
	var asked []question
	var answers [][9]any
	for range 3000 {
		q := question{list[chance.Intn(len(list))], list[chance.Intn(len(list))], chance.Intn(140) - 5, texts[chance.Intn(len(texts))]}
		asked = append(asked, q)
		answers = append(answers, told(q.a, q.b, q.length, q.s))
	}
	for i, q := range slices.Backward(asked) {
		if again := told(q.a, q.b, q.length, q.s); again != answers[i] {
			t.Fatalf("%v: first %v, then %v", q, answers[i], again)
		}
	}
}

// R4: the lists that are handed in stay as they were, also behind their ends; what stands there does not count, and nothing is kept.
func TestListsStay(t *testing.T) {
	chance := rand.New(rand.NewSource(101))
	b := checks.Bytes(chance.Intn, 64)
	was := slices.Clone(b)
	for from := range 40 {
		for _, n := range []int{0, 3, 4, 5, 15, 16, 17} {
			a, e := Of(b[from : from+n])
			if fits := n == 4 || n == 16; fits != (e == api.OK) || fits && a != checks.Address(was[from:from+n]...) {
				t.Fatalf("Of %d bytes, with others behind: %v, %v", n, a, e)
			}
		}
	}
	if !bytes.Equal(b, was) {
		t.Fatal("the bytes were written into")
	}
	groups := []uint16{1, 2, 3, 4, 5, 6, 7, 8, 9, 10}
	kept := slices.Clone(groups)
	for n := range 11 {
		want := append(bytesOf(kept[:n]), make([]byte, 16)...)
		if got := Six(groups[:n]...); got != checks.Address(want[:16]...) {
			t.Fatalf("Six of %d groups, with others behind: %v", n, got)
		}
	}
	if !slices.Equal(groups, kept) {
		t.Fatal("the groups were written into")
	}
	a, _ := Of(b[:16])
	six := Six(groups...)
	clear(b)
	clear(groups)
	if a != checks.Address(was[:16]...) || six != checks.Address(bytesOf(kept[:8])...) {
		t.Error("what was handed in is kept")
	}
}

// R4: what is answered is the caller's, who may write into it, and behind it.
func TestAnswersAreTheCallers(t *testing.T) {
	for _, a := range slices.Concat(edges(), checks.Unlikely(10, 11, 12, 13)) {
		was := a
		got, again := Bytes(a), Bytes(a)
		for i := range got[:cap(got)] {
			got[:cap(got)][i] ^= 0x55
		}
		if a != was || !bytes.Equal(again, Bytes(a)) || !bytes.Equal(again, was.B[:checks.Longest(a)/8]) {
			t.Fatalf("%v: %x, and anew %x", was, again, Bytes(a))
		}
	}
	parsed, _ := Parse("1.2.3.4")
	parsed.B[0] = 9
	if again := read(t, "1.2.3.4"); again != Four(1, 2, 3, 4) {
		t.Error(again)
	}
}
