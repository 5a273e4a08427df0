package ipsix

import (
	"bytes"
	"math/rand"
	"strings"
	"testing"

	"downhaul/api"
	"downhaul/checks"
)

// wrapped are bytes that must be wrapped.
func wrapped(t *testing.T, b []byte, next byte, load []byte) []byte {
	t.Helper()
	out, e := Wrap(b, next, load)
	if e != api.OK {
		t.Fatalf("Wrap(%x, %d bytes; %d, %d bytes): %v", b[:min(len(b), 100)], len(b), next, len(load), e)
	}
	return out
}

// wrappedByWords are bytes with a header more, and the error of it, by the chapter's words.
func wrappedByWords(b []byte, next byte, load []byte) ([]byte, api.Errno) {
	if strings.IndexByte(lengthy, next) < 0 {
		return nil, api.ErrKind
	}
	if len(load) < 6 || len(load) > 2046 || (len(load)-6)%8 != 0 {
		return nil, api.ErrArg
	}
	p, e := wanted(b)
	if e != api.OK {
		return nil, e
	}
	size := int(b[4])*256 + int(b[5]) + 2 + len(load)
	if !p.Whole || isGone(b[6]) || size > 65535 {
		return nil, api.ErrArg
	}
	var out []byte
	out = append(out, b[:4]...)
	out = append(out, byte(size/256), byte(size%256), next)
	out = append(out, b[7:40]...)
	out = append(out, b[6], byte((len(load)-6)/8))
	out = append(out, load...)
	return append(out, b[40:]...), api.OK
}

// P11.3: known bytes.
func TestKnownWraps(t *testing.T) {
	const ends = " 20010db8000000000000000000000001 20010db8000000000000000000000002 "
	for _, c := range []struct {
		b    string
		next byte
		load string
		want string
	}{
		{"60000000 0002 3a 40" + ends + "abcd", 0, "050200000100", "60000000 000a 00 40" + ends + "3a00 050200000100 abcd"},
		{"60000000 0000 3b ff" + ends, 43, "000102030405", "60000000 0008 2b ff" + ends + "3b00 000102030405"},
		{"6abcdef0 0001 11 00" + ends + "77 8899", 60, "0102030405060708090a0b0c0d0e", "6abcdef0 0011 3c 00" + ends + "1101 0102030405060708090a0b0c0d0e 77 8899"},
		{"60000000 00f8 06 01" + ends + strings.Repeat("ee", 248), 60, "000000000000", "60000000 0100 3c 01" + ends + "0600 000000000000" + strings.Repeat("ee", 248)},
		{"60000000 0001 06 01" + ends + "aa", 43, strings.Repeat("bb", 2046), "60000000 0801 2b 01" + ends + "06ff" + strings.Repeat("bb", 2046) + "aa"},
	} {
		if got := wrapped(t, checks.Unhex(c.b), c.next, checks.Unhex(c.load)); !bytes.Equal(got, checks.Unhex(c.want)) {
			t.Errorf("Wrap(%s) = %x", c.b[:60], got[:min(len(got), 80)])
		}
	}
}

// P11.3, P11.6: packets that are Whole, with a header of each kind and of some lengths: what is wrapped is parsed as what it was.
func TestWrap(t *testing.T) {
	many := 0
	for _, p := range tried(rand.New(rand.NewSource(119)), 1000) {
		b := laid(t, p)
		for _, next := range []byte(lengthy) {
			for _, n := range []int{6, 14, 22, 2046} {
				load := checks.Rising(n)
				got, e := Wrap(b, next, load)
				want, f := wrappedByWords(b, next, load)
				if e != f || !bytes.Equal(got, want) {
					t.Fatalf("Wrap(%s; %d, %d bytes) = %x, %v, not %v", short(p), next, n, got[:min(len(got), 100)], e, f)
				}
				if e != api.OK {
					continue
				}
				if back := parsed(t, got); !checks.Alike(back, p) {
					t.Fatalf("%s, wrapped, is parsed as %s", short(p), short(back))
				}
				many++
			}
		}
	}
	if many < 2000 {
		t.Error(many)
	}
}

// P11.3: each length of a load, from none to more than may be.
func TestEachWrap(t *testing.T) {
	p := sized(5)
	b := laid(t, p)
	all := checks.Rising(4200)
	for _, next := range []byte(lengthy) {
		for n := range all {
			got, e := Wrap(b, next, all[:n])
			if n%8 != 6 || n > 2046 {
				if len(got) != 0 || e != api.ErrArg {
					t.Fatalf("%d bytes: %x, %v", n, got, e)
				}
				continue
			}
			want := chained(6, p.Load, extra{next, append([]byte{byte(n / 8)}, all[:n]...)})
			if !bytes.Equal(got, want) || e != api.OK || !checks.Alike(parsed(t, got), p) {
				t.Fatalf("%d bytes: %x, %v", n, got, e)
			}
		}
		for _, n := range []int{1<<16 + 6, 1<<16 + 2046, 1 << 20} {
			if got, e := Wrap(b, next, make([]byte, n)); len(got) != 0 || e != api.ErrArg {
				t.Errorf("%d bytes: %d, %v", n, len(got), e)
			}
		}
	}
}

// P11.3: a kind that is none of the three: ErrKind, whatever else is wrong.
func TestWrapKinds(t *testing.T) {
	b := laid(t, sized(5))
	for n := range 256 {
		next := byte(n)
		for _, text := range [][]byte{b, nil, laid(t, cut(sized(5))), chained(6, nil, long(43, 0)), laid(t, sized(65527))} {
			for _, size := range []int{6, 14, 0, 7} {
				got, e := Wrap(text, next, make([]byte, size))
				want, f := wrappedByWords(text, next, make([]byte, size))
				if e != f || !bytes.Equal(got, want) || (e == api.ErrKind) != (strings.IndexByte(lengthy, next) < 0) {
					t.Fatalf("kind %d, %d bytes: %x, %v, not %v", n, size, got, e, f)
				}
			}
		}
	}
}

// P11.3: a packet that has just 65535 bytes behind its header then, and one that would have more.
func TestWrapGreatest(t *testing.T) {
	for _, next := range []byte(lengthy) {
		for _, n := range []int{6, 14, 22, 254, 2046} {
			load := checks.Rising(n)
			just := 65535 - 2 - n
			for size := just - 1; size <= min(just+9, 65527); size++ {
				p := sized(size)
				got, e := Wrap(laid(t, p), next, load)
				if size > just {
					if len(got) != 0 || e != api.ErrArg {
						t.Errorf("%d and %d bytes: %d, %v", size, n, len(got), e)
					}
					continue
				}
				if e != api.OK || len(got) != 40+2+n+size || !checks.Alike(parsed(t, got), p) {
					t.Errorf("%d and %d bytes: %d, %v", size, n, len(got), e)
				}
			}
		}
	}
	// Bytes behind the packet's length don't count.
	b := append(laid(t, sized(65519)), make([]byte, 5000)...)
	if got := wrapped(t, b, 60, make([]byte, 14)); len(got) != len(b)+16 || !checks.Alike(parsed(t, got), sized(65519)) {
		t.Error(len(got))
	}
}

// P11.3: what is no Whole packet without headers: ErrArg, for a header of each kind, with a piece's, and once it is wrapped.
func TestWrapOnlyOnce(t *testing.T) {
	for _, next := range []byte(lengthy) {
		load := checks.Rising(14)
		for _, c := range append(eights(), []extra{long(0, 0)}, []extra{long(43, 9)}, []extra{long(60, 255)}, []extra{split(0, 0, 0)}, []extra{split(0, 9, 7)}, []extra{long(0, 0), split(0, 0, 0)}) {
			if got, e := Wrap(chained(6, checks.Rising(8), c...), next, load); len(got) != 0 || e != api.ErrArg {
				t.Errorf("%d headers, the first %d: %x, %v", len(c), c[0].kind, got, e)
			}
		}
		once := wrapped(t, laid(t, sized(1)), next, load)
		for _, again := range []byte(lengthy) {
			if got, e := Wrap(once, again, load); len(got) != 0 || e != api.ErrArg {
				t.Errorf("wrapped again: %x, %v", got, e)
			}
		}
		for _, p := range edges() {
			if !p.Whole {
				if got, e := Wrap(laid(t, p), next, load); len(got) != 0 || e != api.ErrArg {
					t.Errorf("Wrap of %s: %x, %v", short(p), got[:min(len(got), 100)], e)
				}
			}
		}
	}
}

// P11.3: of bytes that Parse refuses its error, behind those of the kind and the load, and ahead of the others.
func TestWrapRefuses(t *testing.T) {
	chance := rand.New(rand.NewSource(120))
	many := map[api.Errno]int{}
	for range 100000 {
		b := someBytes(chance)
		if chance.Intn(2) == 0 && len(b) > 6 {
			b[6] = 6
		}
		next := "\x00\x00\x2B\x2B\x3C\x3C\x2C\x06"[chance.Intn(8)]
		load := checks.Bytes(chance.Intn, []int{6, 6, 6, 14, 14, 22, 0, 7}[chance.Intn(8)])
		got, e := Wrap(b, next, load)
		want, f := wrappedByWords(b, next, load)
		if e != f || !bytes.Equal(got, want) {
			t.Fatalf("Wrap(%x, %d, %x) = %x, %v, not %v", b, next, load, got, e, f)
		}
		many[e]++
		if e != api.OK {
			continue
		}
		if !checks.Alike(parsed(t, got), parsed(t, b)) {
			t.Fatalf("Wrap(%x, %d, %x) is parsed as %s", b, next, load, short(parsed(t, got)))
		}
	}
	for _, e := range []api.Errno{api.OK, api.ErrArg, api.ErrForm, api.ErrEnd, api.ErrMany, api.ErrKind} {
		if many[e] < 200 {
			t.Errorf("%v: only %d", e, many[e])
		}
	}
	for n := range 40 {
		if got, e := Wrap(make([]byte, n), 43, make([]byte, 6)); len(got) != 0 || e != api.ErrEnd {
			t.Errorf("Wrap of %d bytes: %x, %v", n, got, e)
		}
	}
	b := laid(t, sized(65527))
	b[0] = 0x45
	for _, c := range []struct {
		what string
		b    []byte
		next byte
		size int
		want api.Errno
	}{
		{"no bytes, a kind and a load that may not be", nil, 44, 0, api.ErrKind},
		{"no bytes, a load that may not be", nil, 43, 7, api.ErrArg},
		{"no bytes, a load of too many", nil, 43, 2054, api.ErrArg},
		{"no bytes", nil, 43, 6, api.ErrEnd},
		{"too many bytes, of another kind", b, 43, 14, api.ErrKind},
		{"a header that is not whole", chained(43, nil), 60, 6, api.ErrEnd},
		{"a late 0", chained(6, nil, long(43, 0), long(0, 0)), 60, 6, api.ErrForm},
		{"a ninth", chained(43, nil, eights()[0]...), 60, 6, api.ErrMany},
		{"a piece that may not be", chained(6, []byte{1}, split(0, 1, 0)), 60, 6, api.ErrForm},
		{"a load of too many bytes", carried(6, make([]byte, 65528)), 60, 6, api.ErrForm},
	} {
		if got, e := Wrap(c.b, c.next, make([]byte, c.size)); len(got) != 0 || e != c.want {
			t.Errorf("%s: %d bytes, %v, not %v", c.what, len(got), e, c.want)
		}
	}
}

// P11.3: what tells nothing of a packet, and what stands behind its length, stays.
func TestWrapKeeps(t *testing.T) {
	chance := rand.New(rand.NewSource(121))
	for range 3000 {
		b := chained(17, checks.Bytes(chance.Intn, chance.Intn(50)))
		b[0], b[1], b[2], b[3], b[7] = 0x60+byte(chance.Intn(16)), byte(chance.Intn(256)), byte(chance.Intn(256)), byte(chance.Intn(256)), byte(chance.Intn(256))
		b = append(b, checks.Bytes(chance.Intn, chance.Intn(30))...)
		next := lengthy[chance.Intn(3)]
		load := checks.Bytes(chance.Intn, 6+8*chance.Intn(6))
		got := wrapped(t, b, next, load)
		if want, _ := wrappedByWords(b, next, load); !bytes.Equal(got, want) {
			t.Fatalf("Wrap(%x, %d, %x) = %x", b, next, load, got)
		}
		if !bytes.Equal(got[:4], b[:4]) || !bytes.Equal(got[7:40], b[7:40]) || !bytes.Equal(got[42:42+len(load)], load) || !bytes.Equal(got[42+len(load):], b[40:]) {
			t.Fatalf("Wrap(%x, %d, %x) = %x", b, next, load, got)
		}
	}
}
