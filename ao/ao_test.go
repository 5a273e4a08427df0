package ao

import (
	"fmt"
	"math"
	"math/rand"
	"slices"
	"testing"

	"downhaul/addr"
	"downhaul/api"
	"downhaul/checks"
	"downhaul/kdf"
)

// algs are both algorithms.
func algs() []int { return []int{kdf.SHA1, kdf.AES} }

// turns are numbers (SNE) at their ends, and between them.
func turns() []uint32 {
	return []uint32{0, 1, 255, 256, 1 << 16, 0x01020304, 1<<31 - 1, 1 << 31, math.MaxUint32}
}

// link is a connection, as one of its ends sees it.
type link struct {
	p          api.Pair
	own, other uint32
}

// linked is a connection of two ends and both initial numbers.
func linked(local, remote api.End, own, other uint32) link {
	return link{api.Pair{Local: local, Remote: remote}, own, other}
}

// back is that connection, as the other end sees it.
func (l link) back() link { return linked(l.p.Remote, l.p.Local, l.other, l.own) }

// way is the way out of that end.
func (l link) way() checks.Way { return checks.FromTo(l.p.Local.Addr, l.p.Remote.Addr) }

// keys are the traffic keys that there must be.
func (l link) keys(t *testing.T, alg int, master []byte, opts bool) Keys {
	t.Helper()
	k, e := Traffic(alg, master, opts, l.p, l.own, l.other)
	if e != api.OK {
		t.Fatalf("Traffic(%d, %x) of %v: %v", alg, master, l, e)
	}
	return k
}

// four is a connection of addresses of four bytes, that of RFC 9235; six is one of sixteen.
func four() link {
	return linked(api.End{Addr: addr.Four(10, 11, 12, 13), Port: 59863}, api.End{Addr: addr.Four(172, 27, 28, 29), Port: 179}, 0xFBFBAB5A, 0x11C14261)
}

func six() link {
	return linked(api.End{Addr: addr.Six(0xFD00, 0, 0, 0, 0, 0, 0, 1), Port: 63578}, api.End{Addr: addr.Six(0xFD00, 0, 0, 0, 0, 0, 0, 2), Port: 179}, 0x193CCCEC, 0xA6744ECB)
}

// begun is a connection, of which the other end's initial number is not known yet.
func begun(l link) link {
	l.other = 0
	return l
}

// linkBy is a connection by chance, between addresses that may be, of one kind.
func linkBy(chance *rand.Rand) link {
	local := checks.AnyAddress(chance.Intn)
	remote := checks.AnyAddress(chance.Intn)
	for remote.Six != local.Six {
		remote = checks.AnyAddress(chance.Intn)
	}
	port := func() uint16 { return uint16(chance.Uint32()) }
	return linked(api.End{Addr: local, Port: port()}, api.End{Addr: remote, Port: port()}, chance.Uint32(), chance.Uint32())
}

// options have AO and may be: with no others, with each other kind alone, and with several, up to just 40 bytes.
func options() []api.Opts {
	var out []api.Opts
	kinds := checks.Kinds()
	for bits := range 1 << 4 {
		for n := range 5 {
			o := checks.With(api.Opts{}, checks.Runs(n), kinds[4])
			for i, kind := range kinds[:4] {
				if bits>>i&1 == 1 {
					kind(&o)
				}
			}
			if len(checks.OptionBytes(o)) <= 40 {
				out = append(out, o)
			}
		}
	}
	return out
}

// withAO is a segment with AO, of other numbers than those of the options that have it.
func withAO(s api.Seg) api.Seg {
	return checks.With(s, func(s *api.Seg) {
		s.Opts.HasAO, s.Opts.KeyID, s.Opts.NextID, s.Opts.MAC = true, 7, 200, checks.MAC()
	})
}

// fits tells whether a segment has no more options than it may have.
func fits(s api.Seg) bool { return len(checks.OptionBytes(s.Opts)) <= 40 }

// segments have AO and may be: each of some lengths with all options that fit, and each field at its ends.
func segments() []api.Seg {
	var out []api.Seg
	for _, o := range options() {
		for _, n := range []int{0, 1, 2, 3, 16, 101} {
			out = append(out, checks.Choosing(o, checks.Sized(n)))
		}
	}
	for _, s := range checks.Segments() {
		if s.Opts.HasAO {
			out = append(out, s)
		}
		if s = withAO(s); fits(s) {
			out = append(out, s)
		}
	}
	return out
}

// anySegment is a segment with AO by chance, that may be.
func anySegment(chance *rand.Rand) api.Seg {
	s := checks.AnySeg(chance.Intn, 200)
	s.Opts = options()[chance.Intn(len(options()))]
	s.Opts.KeyID, s.Opts.NextID, s.Opts.MAC = uint8(chance.Intn(256)), uint8(chance.Intn(256)), [12]byte(checks.Bytes(chance.Intn, 12))
	return s
}

// tried are segments with AO that may be: those at their ends, and n by chance.
func tried(chance *rand.Rand, n int) []api.Seg {
	out := segments()
	for range n {
		out = append(out, anySegment(chance))
	}
	return out
}

// fewer are those of them that have no long data.
func fewer(chance *rand.Rand, n int) []api.Seg {
	return slices.DeleteFunc(tried(chance, n), func(s api.Seg) bool { return len(s.Data) > 200 })
}

// wrongs are segments of which there are no bytes of a MAC: such as have no AO, such as may not be, and such as are both.
func wrongs() []api.Seg {
	out := slices.DeleteFunc(checks.Segments(), func(s api.Seg) bool { return s.Opts.HasAO })
	for _, s := range checks.WrongSegments() {
		out = append(out, s)
		if !s.Opts.HasAO && s.Opts.KeyID == 0 && s.Opts.NextID == 0 && s.Opts.MAC == [12]byte{} {
			out = append(out, withAO(s))
		}
	}
	for _, o := range checks.Options() {
		if s := withAO(checks.Choosing(o, checks.Sized(4))); !fits(s) {
			out = append(out, s)
		}
	}
	return out
}

// pseudo is the pseudo header of a load of so many bytes, by the words of layer 3.
func pseudo(w checks.Way, size int) []byte {
	if w.Src.Six || w.Dst.Six {
		return slices.Concat(w.Src.B[:], w.Dst.B[:], checks.Big(4, uint32(size)), []byte{0, 0, 0, 6})
	}
	return slices.Concat(w.Src.B[:4], w.Dst.B[:4], []byte{0, 6}, checks.Big(2, uint32(size)))
}

// told is a segment with nothing that a MAC does not cover, by the chapter's words.
func told(s api.Seg, opts bool) api.Seg {
	if !opts {
		s.Opts = api.Opts{HasAO: true, KeyID: s.Opts.KeyID, NextID: s.Opts.NextID}
	}
	s.Opts.MAC = [12]byte{}
	return s
}

// spelt are the bytes of a MAC by the chapter's words.
func spelt(w checks.Way, s api.Seg, sne uint32, opts bool) []byte {
	b := checks.SegBytes(told(s, opts))
	return slices.Concat(checks.Big(4, sne), pseudo(w, len(b)), b)
}

// bytesOf are the bytes of a MAC that there must be.
func bytesOf(t *testing.T, w checks.Way, s api.Seg, sne uint32, opts bool) []byte {
	t.Helper()
	b, e := Bytes(w.Src, w.Dst, s, sne, opts)
	if e != api.OK {
		t.Fatalf("Bytes(%v, %s, %d, %t): %v", w, brief(s), sne, opts, e)
	}
	return b
}

// signed is a segment with its MAC, which there must be.
func signed(t *testing.T, k Keys, w checks.Way, s api.Seg, sne uint32) api.Seg {
	t.Helper()
	out, e := Sign(k, w.Src, w.Dst, s, sne)
	if e != api.OK {
		t.Fatalf("Sign(%v, %v, %s, %d): %v", k, w, brief(s), sne, e)
	}
	return out
}

// verifies holds what a segment is verified as.
func verifies(t *testing.T, what string, k Keys, w checks.Way, s api.Seg, sne uint32, want api.Errno) {
	t.Helper()
	if e := Verify(k, w.Src, w.Dst, s, sne); e != want {
		t.Fatalf("%s: Verify(%v, %v, %s, %d) = %v, not %v", what, k, w, brief(s), sne, e, want)
	}
}

// brief is a segment as a text, with no more of its lists than their beginnings.
func brief(s api.Seg) string {
	data, sacks := len(s.Data), len(s.Opts.Sacks)
	s.Data, s.Opts.Sacks = s.Data[:min(data, 40)], s.Opts.Sacks[:min(sacks, 5)]
	return fmt.Sprintf("%+v (%d bytes, %d Sacks)", s, data, sacks)
}

// macs are MACs: of bytes 0, with one bit set, of bytes FF, and another.
func macs() [][12]byte {
	out := [][12]byte{{}, checks.MAC(), [12]byte(checks.Rising(12)), [12]byte(slices.Repeat([]byte{255}, 12))}
	for bit := range 96 {
		out = append(out, flipped([12]byte{}, bit))
	}
	return out
}

// flipped is a MAC with one bit turned.
func flipped(mac [12]byte, bit int) [12]byte {
	mac[bit/8] ^= 0x80 >> (bit % 8)
	return mac
}
