package ao

import (
	"bytes"
	"encoding/binary"
	"math/rand"
	"slices"
	"testing"

	"downhaul/api"
	"downhaul/checks"
	"downhaul/seg"
)

// P20.1: Mark tells its numbers, and a MAC 0; all else stays, also of what may not be.
func TestMark(t *testing.T) {
	list := slices.Concat(segments(), checks.Segments(), checks.WrongSegments())
	for i, s := range list {
		for _, ids := range [][2]uint8{{0, 0}, {1, 0}, {0, 1}, {255, 255}, {61, 84}, {uint8(i), uint8(i >> 8)}} {
			want := s
			want.Opts.HasAO, want.Opts.KeyID, want.Opts.NextID, want.Opts.MAC = true, ids[0], ids[1], [12]byte{}
			got := Mark(s, ids[0], ids[1])
			if !checks.AlikeSegs(got, want) {
				t.Fatalf("Mark(%s, %v) = %s", brief(s), ids, brief(got))
			}
			if again := Mark(got, ids[1], ids[0]); !checks.AlikeSegs(Mark(again, ids[0], ids[1]), want) || again.Opts.KeyID != ids[1] || again.Opts.NextID != ids[0] {
				t.Fatalf("%s is marked anew as %s", brief(got), brief(again))
			}
		}
	}
	for id := range 256 {
		if o := Mark(api.Seg{}, uint8(id), uint8(255-id)).Opts; o.KeyID != uint8(id) || o.NextID != uint8(255-id) || !o.HasAO {
			t.Errorf("%d: %+v", id, o)
		}
	}
}

// P20.1: the bytes of each, with all kinds of options and data, between addresses of all kinds, unlike ones among them, with options covered and without.
func TestBytes(t *testing.T) {
	chance := rand.New(rand.NewSource(201))
	for i, s := range tried(chance, 3000) {
		list := checks.Ways()
		if len(s.Data) > 1000 {
			list = list[:2]
		}
		for _, w := range list {
			for _, opts := range []bool{true, false} {
				sne := turns()[i%len(turns())]
				if got, want := bytesOf(t, w, s, sne, opts), spelt(w, s, sne, opts); !bytes.Equal(got, want) {
					t.Fatalf("%v, %s, %d, %t: %x, not %x", w, brief(s), sne, opts, got[:min(len(got), 120)], want[:min(len(want), 120)])
				}
			}
		}
	}
}

// aheadOf is how many bytes stand ahead of the segment's: the number's, and the pseudo header's.
func aheadOf(w checks.Way) int {
	if w.Src.Six || w.Dst.Six {
		return 4 + 40
	}
	return 4 + 12
}

// sizeOf is how many bytes the pseudo header of bytes of a MAC tells of, by layer 3.
func sizeOf(w checks.Way, b []byte) int {
	if ahead := aheadOf(w); ahead == 4+12 {
		return int(binary.BigEndian.Uint16(b[ahead-2:]))
	}
	return int(binary.BigEndian.Uint32(b[36:]))
}

// P20.1: the check sum and the MAC are 0; how long the header is is that of what stands there, and the pseudo header tells of as many bytes as stand behind it; just AO stands there, if options are not covered.
func TestPlaces(t *testing.T) {
	for _, s := range fewer(rand.New(rand.NewSource(202)), 500) {
		mark := append([]byte{29, 16, s.Opts.KeyID, s.Opts.NextID}, make([]byte, 12)...)
		for _, w := range checks.Ways() {
			all, bare := bytesOf(t, w, s, 5, true), bytesOf(t, w, s, 5, false)
			text, less := all[aheadOf(w):], bare[aheadOf(w):]
			size := 20 + len(checks.OptionBytes(s.Opts))
			if len(text) != size+len(s.Data) || len(less) != 36+len(s.Data) || int(text[12]) != size/4*16 || less[12] != 0x90 {
				t.Fatalf("%s: headers of %x and %x: %x, %x", brief(s), text[12], less[12], all, bare)
			}
			if sizeOf(w, all) != len(text) || sizeOf(w, bare) != len(less) || !bytes.Equal(text[size:], s.Data) || !bytes.Equal(less[36:], s.Data) {
				t.Fatalf("%s: %d and %d bytes: %x, %x", brief(s), sizeOf(w, all), sizeOf(w, bare), all, bare)
			}
			if !bytes.Equal(text[16:18], []byte{0, 0}) || !bytes.Equal(less[16:18], []byte{0, 0}) || !bytes.Contains(text[20:size], mark) || !bytes.Equal(less[20:36], mark) {
				t.Fatalf("%s: %x, %x", brief(s), all, bare)
			}
		}
	}
}

// P20.1, P20.4: the MAC that a segment has counts for nothing in its bytes.
func TestMACDoesNotCount(t *testing.T) {
	for _, s := range []api.Seg{withAO(api.Seg{}), checks.Choosing(checks.Full(), checks.Sized(9)), checks.Choosing(options()[len(options())-1], checks.Sized(16384))} {
		for _, w := range checks.Ways()[:2] {
			for _, opts := range []bool{true, false} {
				want := bytesOf(t, w, s, 1, opts)
				for _, s.Opts.MAC = range macs() {
					if got := bytesOf(t, w, s, 1, opts); !bytes.Equal(got, want) {
						t.Fatalf("%s: %x, not %x", brief(s), got, want)
					}
				}
			}
		}
	}
}

// P20.1: each number (SNE) at its ends and with one bit set stands ahead of all, its highest byte first.
func TestTurns(t *testing.T) {
	list := turns()
	for bit := range 32 {
		list = append(list, 1<<bit)
	}
	s := checks.Choosing(checks.Full(), checks.Sized(3))
	for _, w := range checks.Ways() {
		for _, opts := range []bool{true, false} {
			rest := bytesOf(t, w, s, 0, opts)[4:]
			for _, sne := range list {
				b := bytesOf(t, w, s, sne, opts)
				if binary.BigEndian.Uint32(b) != sne || !bytes.Equal(b[4:], rest) {
					t.Fatalf("%d: %x", sne, b)
				}
			}
		}
	}
}

// P20.5: without options covered the bytes are those of the segment with AO alone, whatever other options it has.
func TestOptionsNotCovered(t *testing.T) {
	for _, s := range fewer(rand.New(rand.NewSource(203)), 1000) {
		alone := s
		alone.Opts = api.Opts{HasAO: true, KeyID: s.Opts.KeyID, NextID: s.Opts.NextID}
		for i, w := range checks.Ways() {
			sne := turns()[i]
			want := bytesOf(t, w, alone, sne, true)
			if got := bytesOf(t, w, s, sne, false); !bytes.Equal(got, want) || !bytes.Equal(bytesOf(t, w, alone, sne, false), want) {
				t.Fatalf("%s: %x, not %x", brief(s), got, want)
			}
			if others := len(checks.OptionBytes(s.Opts)) > 16; bytes.Equal(bytesOf(t, w, s, sne, true), want) == others {
				t.Fatalf("%s: that there are others is %t", brief(s), others)
			}
		}
	}
}

// readBack is what bytes of a MAC tell, by layers 3 and 13: between whom, by which number, and the segment. A check sum is laid into them.
func readBack(t *testing.T, w checks.Way, b []byte) (checks.Way, uint32, api.Seg) {
	t.Helper()
	n := 4
	if w.Src.Six {
		n = 16
	}
	between := checks.FromTo(checks.Address(b[4:4+n]...), checks.Address(b[4+n:4+2*n]...))
	text := slices.Clone(b[aheadOf(w):])
	binary.BigEndian.PutUint16(text[16:], ^checks.Sum(b[4:]))
	s, e := seg.Parse(between.Src, between.Dst, text)
	if e != api.OK {
		t.Fatalf("%x: %v", b, e)
	}
	return between, binary.BigEndian.Uint32(b), s
}

// P20.6: bytes tell all that is covered: the number, both addresses, and the segment, but for its MAC.
func TestBytesTellAll(t *testing.T) {
	for i, s := range fewer(rand.New(rand.NewSource(204)), 3000) {
		for _, w := range []checks.Way{checks.FourWay(), checks.SixWay(), {}} {
			for _, opts := range []bool{true, false} {
				sne := turns()[i%len(turns())]
				between, number, got := readBack(t, w, bytesOf(t, w, s, sne, opts))
				if between != w || number != sne || !checks.AlikeSegs(got, told(s, opts)) {
					t.Fatalf("%v, %d, %s is told as %v, %d, %s", w, sne, brief(s), between, number, brief(got))
				}
			}
		}
	}
}

// P20.6: what differs in one field that is covered has other bytes; what differs in a MAC, or in options that are not covered, has the same.
func TestBytesOfOthers(t *testing.T) {
	w := checks.FourWay()
	for _, s := range []api.Seg{withAO(api.Seg{}), checks.Choosing(checks.Full(), checks.Sized(9)), checks.Choosing(options()[3], checks.Sized(40)), checks.Choosing(options()[len(options())-1], checks.Ordinary())} {
		for _, opts := range []bool{true, false} {
			was := bytesOf(t, w, s, 3, opts)
			same, other := 0, 0
			for _, q := range checks.DifferingSegs(s) {
				if !q.Opts.HasAO || !seg.May(q) {
					continue
				}
				alike := checks.AlikeSegs(told(s, opts), told(q, opts))
				if got := bytesOf(t, w, q, 3, opts); bytes.Equal(got, was) != alike {
					t.Fatalf("%s and %s, %t: %x, %x", brief(s), brief(q), opts, was, got)
				}
				if alike {
					same++
				} else {
					other++
				}
			}
			if same < 24 || other < 24 {
				t.Errorf("%s: %d the same, and %d others", brief(s), same, other)
			}
		}
		for bit := range 32 {
			src, dst := w, w
			src.Src, dst.Dst = checks.Turned(w.Src, bit), checks.Turned(w.Dst, bit)
			was := bytesOf(t, w, s, 3, true)
			if bytes.Equal(bytesOf(t, src, s, 3, true), was) || bytes.Equal(bytesOf(t, dst, s, 3, true), was) || bytes.Equal(bytesOf(t, w, s, 3^1<<bit, true), was) {
				t.Fatalf("%s, bit %d: it does not count", brief(s), bit)
			}
		}
	}
}

// P20.6: no two of many small segments, between addresses of few bytes that are not 0, have the same bytes, though bytes of one stand where others of another one do.
func TestNoTwoHaveTheSame(t *testing.T) {
	chance := rand.New(rand.NewSource(205))
	few := func() uint32 { return []uint32{0, 0, 0, 6, 0x24, 0x1D100000, 0x00060024, 0x90000000}[chance.Intn(8)] }
	type piece struct {
		w   checks.Way
		sne uint32
		s   api.Seg
	}
	seen := map[string]piece{}
	for range 200000 {
		w := checks.Way{}
		w.Src.Six = chance.Intn(2) == 0
		w.Dst.Six = w.Src.Six
		n := 4
		if w.Src.Six {
			n = 16
		}
		at := chance.Intn(n / 4)
		copy(w.Src.B[4*at:], checks.Big(4, few()))
		copy(w.Dst.B[4*at:], checks.Big(4, few()))
		s := api.Seg{Seq: few(), Ack: few(), Window: uint16(few()), Urgent: uint16(few()), Opts: api.Opts{HasAO: true}, Data: checks.Big(4, few(), few())[:chance.Intn(9)]}
		if chance.Intn(2) == 0 {
			s.Opts.HasMSS = true
		}
		p := piece{w, few(), s}
		b := string(bytesOf(t, w, s, p.sne, true))
		first, there := seen[b]
		if there && (first.w != p.w || first.sne != p.sne || !checks.AlikeSegs(first.s, p.s)) {
			t.Fatalf("%+v and %+v have the bytes %x", first, p, b)
		}
		seen[b] = p
	}
}

// P20.1: what stands behind the fourth byte of an address of four does not count; of unlike addresses all sixteen bytes of each do.
func TestAddresses(t *testing.T) {
	s := checks.Choosing(checks.Full(), checks.Sized(5))
	w := checks.FourWay()
	for _, opts := range []bool{true, false} {
		want := bytesOf(t, w, s, 0, opts)
		for _, src := range checks.Unlikely(w.Src.B[:4]...) {
			for _, dst := range checks.Unlikely(w.Dst.B[:4]...) {
				if got := bytesOf(t, checks.FromTo(src, dst), s, 0, opts); !bytes.Equal(got, want) {
					t.Fatalf("%v, %v: %x, not %x", src, dst, got, want)
				}
			}
		}
		for _, w := range []checks.Way{{Src: checks.FourWay().Src, Dst: checks.SixWay().Dst}, {Src: checks.SixWay().Src, Dst: checks.FourWay().Dst}} {
			both := w
			both.Src.Six, both.Dst.Six = true, true
			want := bytesOf(t, both, s, 0, opts)
			if got := bytesOf(t, w, s, 0, opts); !bytes.Equal(got, want) || !bytes.Equal(got[4:36], slices.Concat(w.Src.B[:], w.Dst.B[:])) {
				t.Fatalf("%v: %x, not %x", w, got, want)
			}
		}
	}
}

// P20.1: a segment without AO, one that may not be, and one that is both, have no bytes, whatever else is asked.
func TestNoBytes(t *testing.T) {
	for _, s := range wrongs() {
		for i, w := range checks.Ways() {
			for _, opts := range []bool{true, false} {
				if b, e := Bytes(w.Src, w.Dst, s, turns()[i], opts); b != nil || e != api.ErrArg {
					t.Fatalf("Bytes(%s, %t) = %x, %v", brief(s), opts, b[:min(len(b), 100)], e)
				}
			}
		}
	}
}
