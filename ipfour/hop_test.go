package ipfour

import (
	"bytes"
	"encoding/binary"
	"math/rand"
	"slices"
	"testing"

	"downhaul/api"
	"downhaul/checks"
)

// hopped are bytes that must hop.
func hopped(t *testing.T, b []byte) []byte {
	t.Helper()
	out, e := Hop(b)
	if e != api.OK {
		t.Fatalf("Hop(%x, %d bytes): %v", b[:min(len(b), 60)], len(b), e)
	}
	return out
}

// hoppedByWords are bytes with one hop less, by the chapter's words: the check sum by RFC 1624, all bits of the sum of three numbers turned.
func hoppedByWords(b []byte) []byte {
	out := slices.Clone(b)
	out[8]--
	var three []byte
	for _, n := range []uint16{^binary.BigEndian.Uint16(b[10:]), ^binary.BigEndian.Uint16(b[8:]), binary.BigEndian.Uint16(out[8:])} {
		three = binary.BigEndian.AppendUint16(three, n)
	}
	binary.BigEndian.PutUint16(out[10:], ^checks.Sum(three))
	return out
}

// P10.3: known bytes.
func TestKnownHops(t *testing.T) {
	for _, c := range []struct{ b, want string }{
		{"4500001c 00000000 400166df 0a000001 0a000002 0800f7fc 00010002", "4500001c 00000000 3f0167df 0a000001 0a000002 0800f7fc 00010002"},
		{"45000073 00004000 4011b861 c0a80001 c0a800c7" + string(bytes.Repeat([]byte("00"), 95)), "45000073 00004000 3f11b961 c0a80001 c0a800c7" + string(bytes.Repeat([]byte("00"), 95))},
		// Options, and bytes behind the length of all, stay.
		{"46b80018 00000000 0206a513 01020304 05060708 01010101 abcdef", "46b80018 00000000 0106a613 01020304 05060708 01010101 abcdef"},
	} {
		if got := hopped(t, checks.Unhex(c.b)); !bytes.Equal(got, checks.Unhex(c.want)) {
			t.Errorf("Hop(%s) = %x", c.b, got)
		}
	}
}

// P10.3: what hops is laid as the packet with one hop less.
func TestHop(t *testing.T) {
	list := tried(rand.New(rand.NewSource(107)), 2000)
	for hops := range 256 {
		list = append(list, checks.Hopping(uint8(hops), sized(3)), checks.Wholly(checks.Hopping(uint8(hops), sized(0))))
	}
	for _, p := range list {
		b := laid(t, p)
		got, e := Hop(b)
		if p.Hops < 2 {
			if e != api.ErrArg || len(got) != 0 {
				t.Fatalf("Hop of %s: %d bytes, %v", short(p), len(got), e)
			}
			continue
		}
		if e != api.OK || !bytes.Equal(got, laid(t, checks.Hopping(p.Hops-1, p))) || !bytes.Equal(got, hoppedByWords(b)) {
			t.Fatalf("Hop of %s: %x, %v", short(p), got[:min(len(got), 40)], e)
		}
	}
}

// P10.3: all check sums that there are, those that go round among them; of two that fit, 0 and FFFF, either.
func TestHopOfAllSums(t *testing.T) {
	seen, ends := map[uint16]bool{}, 0
	for id := range 1 << 16 {
		p := checks.Numbered(uint32(id), ordinary())
		b := laid(t, p)
		want := laid(t, checks.Hopping(63, p))
		if got := hopped(t, b); !bytes.Equal(got, want) {
			t.Fatalf("Hop(%x) = %x, not %x", b, got, want)
		}
		seen[binary.BigEndian.Uint16(b[10:])] = true
		if b[10] != 0 || b[11] != 0 {
			continue
		}
		ends++
		b[10], b[11] = 255, 255
		if got := hopped(t, b); !bytes.Equal(got, want) || !bytes.Equal(got, hoppedByWords(b)) {
			t.Fatalf("Hop(%x) = %x, not %x", b, got, want)
		}
	}
	// Of FFFF there is none, as the sum of what stands around it is never 0.
	if len(seen) != 1<<16-1 || seen[0xFFFF] || ends == 0 || !seen[0xFEFF] || !seen[0xFF00] || !seen[0xFFFE] {
		t.Errorf("%d check sums, %d of them 0", len(seen), ends)
	}
}

// P10.3: with options, a second byte, and others behind the length of all, which all stay as they are.
func TestHopKeeps(t *testing.T) {
	chance := rand.New(rand.NewSource(108))
	for range 5000 {
		n := chance.Intn(40)
		h := headerOf(n, checks.Bytes(chance.Intn, 4*chance.Intn(11))...)
		h.service, h.hops, h.proto, h.id = byte(chance.Intn(256)), byte(2+chance.Intn(254)), byte(chance.Intn(256)), uint16(chance.Intn(1<<16))
		h.cut = []uint16{0, 0x4000, 1, 0x1000}[chance.Intn(4)]
		b := h.bytes(checks.Bytes(chance.Intn, n+chance.Intn(30))...)
		got := hopped(t, b)
		if !bytes.Equal(got, hoppedByWords(b)) {
			t.Fatalf("Hop(%x) = %x", b, got)
		}
		p := parsed(t, b)
		if !checks.Alike(parsed(t, got), checks.Hopping(p.Hops-1, p)) {
			t.Fatalf("Hop(%x) is parsed as %s", b, short(parsed(t, got)))
		}
	}
}

// P10.3: hop by hop, until there is one left.
func TestHopByHop(t *testing.T) {
	b := headerOf(4, 7, 7, 4, 0).bytes(1, 2, 3, 4, 5, 6)
	b[8] = 255
	summed(b)
	for hops := 255; hops > 1; hops-- {
		if got := parsed(t, b); !checks.Alike(got, checks.Hopping(uint8(hops), ordinary(1, 2, 3, 4))) {
			t.Fatalf("%d: %s", hops, short(got))
		}
		b = hopped(t, b)
	}
	if got, e := Hop(b); len(got) != 0 || e != api.ErrArg {
		t.Errorf("Hop of the last: %x, %v", got, e)
	}
}

// P10.3: of bytes that Parse refuses its error, ahead of that of the Hops, and no bytes.
func TestHopRefuses(t *testing.T) {
	chance := rand.New(rand.NewSource(109))
	many := map[api.Errno]int{}
	for range 50000 {
		h := headerOf(0)
		h.first = []byte{0x45, 0x45, 0x45, 0x45, 0x46, 0x4F, 0x44, 0x65}[chance.Intn(8)]
		h.all = 18 + chance.Intn(30)
		h.cut = []uint16{0, 0x4000, 0x2000, 0x6000, 0x8000, 0x1FFF}[chance.Intn(6)]
		h.hops = byte(chance.Intn(4))
		b := h.bytes(checks.Bytes(chance.Intn, 48)...)
		if chance.Intn(4) == 0 {
			b[11] ^= 2
		}
		b = b[:18+chance.Intn(50)]
		got, e := Hop(b)
		_, want := wanted(b)
		if want == api.OK && b[8] < 2 {
			want = api.ErrArg
		}
		if e != want || e != api.OK && len(got) != 0 || e == api.OK && !bytes.Equal(got, hoppedByWords(b)) {
			t.Fatalf("Hop(%x) = %x, %v, not %v", b, got, e, want)
		}
		many[e]++
	}
	for _, e := range []api.Errno{api.OK, api.ErrArg, api.ErrForm, api.ErrEnd, api.ErrSum, api.ErrKind} {
		if many[e] < 500 {
			t.Errorf("%v: only %d", e, many[e])
		}
	}
	for n := range 20 {
		if got, e := Hop(make([]byte, n)); len(got) != 0 || e != api.ErrEnd {
			t.Errorf("Hop of %d bytes: %x, %v", n, got, e)
		}
	}
	if got, e := Hop(nil); len(got) != 0 || e != api.ErrEnd {
		t.Errorf("Hop of none: %x, %v", got, e)
	}
}
