package ipsix

import (
	"bytes"
	"math/rand"
	"slices"
	"testing"

	"downhaul/api"
	"downhaul/checks"
)

// hopped are bytes that must hop.
func hopped(t *testing.T, b []byte) []byte {
	t.Helper()
	out, e := Hop(b)
	if e != api.OK {
		t.Fatalf("Hop(%x, %d bytes): %v", b[:min(len(b), 100)], len(b), e)
	}
	return out
}

// hoppedByWords are bytes with one hop less, by the chapter's words.
func hoppedByWords(b []byte) []byte { return slices.Concat(b[:7], []byte{b[7] - 1}, b[8:]) }

// P11.3: what hops is laid as the packet with one hop less; of Hops 0 and 1 ErrArg is told.
func TestHop(t *testing.T) {
	list := tried(rand.New(rand.NewSource(116)), 2000)
	for hops := range 256 {
		list = append(list, checks.Hopping(uint8(hops), sized(3)), checks.Hopping(uint8(hops), cut(sized(0))))
	}
	for _, p := range list {
		b := laid(t, p)
		got, e := Hop(b)
		if p.Hops < 2 {
			if e != api.ErrArg || len(got) != 0 {
				t.Fatalf("Hop of %s: %d bytes, %v", short(p), len(got), e)
			}
			continue
		}
		if e != api.OK || !bytes.Equal(got, laid(t, checks.Hopping(p.Hops-1, p))) {
			t.Fatalf("Hop of %s: %x, %v", short(p), got[:min(len(got), 60)], e)
		}
	}
}

// P11.3: all bytes but one stay: those that tell nothing, headers, and what stands behind the length.
func TestHopKeeps(t *testing.T) {
	chance := rand.New(rand.NewSource(117))
	chains := append(eights(), nil, []extra{long(0, 3)}, []extra{split(99, 0x4F, 7)}, []extra{long(43, 0), long(60, 1), split(3, 6, 1<<32-1)})
	for range 5000 {
		c := chains[chance.Intn(len(chains))]
		b := chained(17, checks.Bytes(chance.Intn, 8*chance.Intn(5)), c...)
		b[0], b[1], b[2], b[3], b[7] = 0x60+byte(chance.Intn(16)), byte(chance.Intn(256)), byte(chance.Intn(256)), byte(chance.Intn(256)), byte(2+chance.Intn(254))
		b = append(b, checks.Bytes(chance.Intn, chance.Intn(30))...)
		got := hopped(t, b)
		if !bytes.Equal(got, hoppedByWords(b)) {
			t.Fatalf("Hop(%x) = %x", b, got)
		}
		p := parsed(t, b)
		if !checks.Alike(parsed(t, got), checks.Hopping(p.Hops-1, p)) {
			t.Fatalf("Hop(%x) is parsed as %s", b, short(parsed(t, got)))
		}
	}
}

// P11.3: hop by hop, until there is one left.
func TestHopByHop(t *testing.T) {
	b := append(chained(6, checks.Rising(4), long(0, 0)), 5, 6)
	b[7] = 255
	for hops := 255; hops > 1; hops-- {
		if got := parsed(t, b); !checks.Alike(got, checks.Hopping(uint8(hops), sized(4))) {
			t.Fatalf("%d: %s", hops, short(got))
		}
		b = hopped(t, b)
	}
	if got, e := Hop(b); len(got) != 0 || e != api.ErrArg {
		t.Errorf("Hop of the last: %x, %v", got, e)
	}
}

// P11.3: of bytes that Parse refuses its error, ahead of that of the Hops, and no bytes.
func TestHopRefuses(t *testing.T) {
	chance := rand.New(rand.NewSource(118))
	many := map[api.Errno]int{}
	for range 50000 {
		b := someBytes(chance)
		if len(b) > 7 {
			b[7] = byte(chance.Intn(4))
		}
		got, e := Hop(b)
		_, want := wanted(b)
		if want == api.OK && b[7] < 2 {
			want = api.ErrArg
		}
		if e != want || e != api.OK && len(got) != 0 || e == api.OK && !bytes.Equal(got, hoppedByWords(b)) {
			t.Fatalf("Hop(%x) = %x, %v, not %v", b, got, e, want)
		}
		many[e]++
	}
	for _, e := range []api.Errno{api.OK, api.ErrArg, api.ErrForm, api.ErrEnd, api.ErrMany, api.ErrKind} {
		if many[e] < 200 {
			t.Errorf("%v: only %d", e, many[e])
		}
	}
	for n := range 40 {
		if got, e := Hop(make([]byte, n)); len(got) != 0 || e != api.ErrEnd {
			t.Errorf("Hop of %d bytes: %x, %v", n, got, e)
		}
	}
	if got, e := Hop(nil); len(got) != 0 || e != api.ErrEnd {
		t.Errorf("Hop of none: %x, %v", got, e)
	}
}
