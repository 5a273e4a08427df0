package seg

import (
	"bytes"
	"encoding/binary"
	"fmt"
	"math"
	"math/rand"
	"slices"
	"testing"

	"downhaul/addr"
	"downhaul/api"
	"downhaul/checks"
	"downhaul/chksum"
	"downhaul/opts"
)

// at is a segment that begins at a number.
func at(seq uint32, s api.Seg) api.Seg {
	return checks.With(s, func(s *api.Seg) { s.Seq = seq })
}

// may tells by the chapter's words whether a segment may be.
func may(s api.Seg) bool { return opts.May(s.Opts) && s.Flags < 64 && len(s.Data) < 16385 }

// summed are bytes with the check sum that fits at its place.
func summed(w checks.Way, b []byte) []byte {
	copy(b[16:], []byte{0, 0})
	binary.BigEndian.PutUint16(b[16:], ^w.Sum(6, b))
	return b
}

// spelt are the bytes of a segment by the chapter's words.
func spelt(w checks.Way, s api.Seg) []byte { return summed(w, checks.SegBytes(s)) }

// laid are the bytes of a segment that must have some.
func laid(t *testing.T, w checks.Way, s api.Seg) []byte {
	t.Helper()
	b, e := Lay(w.Src, w.Dst, s)
	if e != api.OK {
		t.Fatalf("Lay(%s): %v", brief(s), e)
	}
	return b
}

// brief is a segment as a text, with no more of its lists than their beginnings.
func brief(s api.Seg) string {
	data, sacks := len(s.Data), len(s.Opts.Sacks)
	s.Data, s.Opts.Sacks = s.Data[:min(data, 40)], s.Opts.Sacks[:min(sacks, 5)]
	return fmt.Sprintf("%+v (%d bytes, %d Sacks)", s, data, sacks)
}

// tried are segments that may be: the edges, and n by chance.
func tried(chance *rand.Rand, n int) []api.Seg {
	list := checks.Segments()
	for range n {
		list = append(list, checks.AnySeg(chance.Intn, 200))
	}
	return list
}

// examples are segments, and their bytes, reckoned by another program.
func examples() []struct {
	w    checks.Way
	s    api.Seg
	want string
} {
	short := checks.FromTo(addr.Four(10, 0, 0, 1), addr.Four(10, 0, 0, 2))
	syn := api.Seg{Src: 1024, Dst: 80, Seq: 5, Flags: api.Syn, Window: 65535}
	return []struct {
		w    checks.Way
		s    api.Seg
		want string
	}{
		{checks.Way{}, api.Seg{}, "00000000 00000000 00000000 50000000 afe50000"},
		{short, syn, "04000050 00000005 00000000 5002ffff 978b0000"},
		{short, checks.Choosing(api.Opts{HasMSS: true, MSS: 1460}, syn), "04000050 00000005 00000000 6002ffff 7fcf0000 020405b4"},
		{short, api.Seg{Src: 65535, Dst: 65535, Seq: math.MaxUint32, Ack: math.MaxUint32, Flags: 63, Window: 65535, Urgent: 65535, Data: []byte{255}}, "ffffffff ffffffff ffffffff 503fffff 9ca1ffff ff"},
		{checks.FromTo(addr.Four(192, 168, 1, 2), addr.Four(192, 168, 1, 3)), checks.Ordinary([]byte("hello")...), "a8ca0016 01020304 a0b0c0d0 501801f5 d8420000 68656c6c6f"},
		{
			checks.FromTo(addr.Six(0x2001, 0xDB8, 0, 0, 0, 0, 0, 1), addr.Six(0xFE80, 0, 0, 0, 0, 0, 0, 2)),
			api.Seg{Src: 49152, Dst: 443, Seq: 1<<31 - 1, Ack: 1 << 31, Flags: api.Fin | api.Ack, Window: 1, Urgent: 7, Opts: api.Opts{HasTime: true, Val: 0x01020304, Echo: 0xFFEEDDCC}, Data: []byte("data")},
			"c00001bb 7fffffff 80000000 80110001 cf340007 080a01020304ffeeddcc0000 64617461",
		},
	}
}

// P13.1: known bytes, with their check sums.
func TestKnownBytes(t *testing.T) {
	for _, c := range examples() {
		want := checks.Unhex(c.want)
		if got := laid(t, c.w, c.s); !bytes.Equal(got, want) || !May(c.s) {
			t.Errorf("%s is laid as %x, not %x", brief(c.s), got, want)
		}
	}
}

// P13.1: the bytes of each, between addresses of all kinds.
func TestLay(t *testing.T) {
	chance := rand.New(rand.NewSource(131))
	for _, s := range tried(chance, 3000) {
		list := checks.Ways()
		if len(s.Data) > 1000 {
			list = list[:2]
		}
		for _, w := range list {
			if got, want := laid(t, w, s), spelt(w, s); !bytes.Equal(got, want) {
				t.Fatalf("%s is laid as %x, not %x", brief(s), got[:min(len(got), 80)], want[:min(len(want), 80)])
			}
		}
	}
}

// P13.1: the check sum is that of layer 3, of protocol 6, with 0 in its place; all the bytes are good.
func TestCheckSum(t *testing.T) {
	for _, s := range tried(rand.New(rand.NewSource(132)), 500) {
		for _, w := range checks.Ways()[:5] {
			b := laid(t, w, s)
			told := binary.BigEndian.Uint16(b[16:])
			if !chksum.Good(w.Src, w.Dst, 6, b) {
				t.Fatalf("%s: the check sum is not good", brief(s))
			}
			b[16], b[17] = 0, 0
			if want := chksum.Load(w.Src, w.Dst, 6, b); told != want {
				t.Fatalf("%s: the check sum is %x, not %x", brief(s), told, want)
			}
		}
	}
}

// P13.1: what may be, and what may not, of which no bytes are told.
func TestMay(t *testing.T) {
	for _, s := range tried(rand.New(rand.NewSource(133)), 500) {
		if !May(s) || !may(s) {
			t.Errorf("%s may not be", brief(s))
		}
	}
	for _, s := range checks.WrongSegments() {
		if May(s) || may(s) {
			t.Errorf("%s may be", brief(s))
		}
		for _, w := range checks.Ways() {
			if b, e := Lay(w.Src, w.Dst, s); b != nil || e != api.ErrArg {
				t.Errorf("Lay(%s) = %x, %v", brief(s), b[:min(len(b), 60)], e)
			}
		}
	}
}

// P13.1: the same are the same, and what differs in one field alone is not; also of what may not be.
func TestSame(t *testing.T) {
	list := append(tried(rand.New(rand.NewSource(134)), 50), checks.WrongSegments()...)
	for _, s := range list {
		if len(s.Opts.Sacks) > 5 || len(s.Data) > 70000 {
			continue
		}
		if !Same(s, s) || !Same(s, checks.CopiedSeg(s)) || !Same(checks.CopiedSeg(s), s) {
			t.Fatalf("%s is not the same as itself", brief(s))
		}
		for _, q := range checks.DifferingSegs(s) {
			if Same(s, q) || Same(q, s) {
				t.Fatalf("%s and %s are the same", brief(s), brief(q))
			}
		}
	}
	// What stands in another field is not the same.
	for _, c := range [][2]api.Seg{{{Src: 1}, {Dst: 1}}, {{Seq: 1}, {Ack: 1}}, {{Window: 1}, {Urgent: 1}}, {{Src: 1, Dst: 2}, {Src: 2, Dst: 1}}, {{Seq: 1, Ack: 2}, {Seq: 2, Ack: 1}}} {
		if Same(c[0], c[1]) || Same(c[1], c[0]) {
			t.Errorf("%s and %s are the same", brief(c[0]), brief(c[1]))
		}
	}
}

// P13.1: each two of many.
func TestSameOfEachTwo(t *testing.T) {
	list := slices.Concat(checks.DifferingSegs(api.Seg{}), checks.DifferingSegs(checks.Choosing(checks.Full(), checks.Sized(9))))
	for _, a := range list {
		for _, b := range list {
			if Same(a, b) != checks.AlikeSegs(a, b) {
				t.Fatalf("Same(%s; %s) = %t", brief(a), brief(b), Same(a, b))
			}
		}
	}
}

// R6: no lists, and lists of length 0, are the same to all calls.
func TestNoLists(t *testing.T) {
	for _, s := range []api.Seg{{}, checks.Ordinary(), checks.Choosing(checks.Full(), checks.Ordinary()), checks.Flagged(api.Syn|api.Fin, checks.Ordinary())} {
		empty, room := s, s
		empty.Data, empty.Opts.Sacks = []byte{}, []api.Block{}
		room.Data, room.Opts.Sacks = make([]byte, 9)[:0], make([]api.Block, 9)[:0]
		for _, a := range []api.Seg{s, empty, room} {
			for _, b := range []api.Seg{s, empty, room} {
				one, ok := Reset(a)
				two, fine := Reset(b)
				if !Same(a, b) || Len(a) != Len(b) || May(a) != May(b) || !bytes.Equal(laid(t, checks.SixWay(), a), laid(t, checks.SixWay(), b)) || !checks.AlikeSegs(one, two) || ok != fine {
					t.Errorf("%s: no lists are not the same as empty ones", brief(s))
				}
				for begin := s.Seq - 3; begin != s.Seq+3; begin++ {
					if !checks.AlikeSegs(Trim(a, begin, 2), Trim(b, begin, 2)) {
						t.Errorf("%s: no lists are not trimmed as empty ones", brief(s))
					}
				}
			}
		}
	}
}

// P13.1: how many numbers it has: those of its data, and one each for Syn and Fin, whatever else there is.
func TestLen(t *testing.T) {
	for _, n := range []int{0, 1, 2, 100, 1460, 16383, 16384, 16385, 65535, 65536, 1<<16 + 1, 1 << 24} {
		s := checks.Choosing(checks.Full(), api.Seg{Seq: math.MaxUint32, Ack: 99, Urgent: 7, Data: make([]byte, n)})
		for flags := range 256 {
			want := uint32(n)
			if flags%4/2 == 1 {
				want++
			}
			if flags%2 == 1 {
				want++
			}
			if got := Len(checks.Flagged(uint8(flags), s)); got != want {
				t.Fatalf("%d bytes, flags %d: %d, not %d", n, flags, got, want)
			}
		}
	}
}

// P13.1: whether it has all flags: of none, of one, of some, of all, and of those that no segment has.
func TestHas(t *testing.T) {
	for own := range 256 {
		for asked := range 256 {
			want := true
			for bit := range 8 {
				want = want && (asked>>bit%2 == 0 || own>>bit%2 == 1)
			}
			if got := Has(checks.Flagged(uint8(own), checks.Sized(3)), uint8(asked)); got != want {
				t.Fatalf("flags %d, asked for %d: %t", own, asked, got)
			}
		}
	}
}
