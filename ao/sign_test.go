package ao

import (
	"math/rand"
	"testing"

	"downhaul/api"
	"downhaul/checks"
	"downhaul/kdf"
	"downhaul/seg"
)

// keysOf are keys of an algorithm's size, which stand by themselves.
func keysOf(alg int, opts bool) Keys {
	n := kdf.Size(alg)
	return Keys{Alg: alg, Out: checks.Rising(n), In: checks.Rising(2 * n)[n:], Opts: opts}
}

// turned are keys with both ways changed about: the other end's.
func turned(k Keys) Keys {
	k.Out, k.In = k.In, k.Out
	return k
}

// allKeys are keys of each algorithm, with options covered and without.
func allKeys() []Keys {
	var out []Keys
	for _, alg := range algs() {
		out = append(out, keysOf(alg, true), keysOf(alg, false))
	}
	return out
}

// macOf is by the chapter's words a segment's MAC by a key.
func macOf(t *testing.T, k Keys, key []byte, w checks.Way, s api.Seg, sne uint32) [12]byte {
	t.Helper()
	mac, e := kdf.MAC(k.Alg, key, spelt(w, s, sne, k.Opts))
	if e != api.OK {
		t.Fatal(e)
	}
	return mac
}

// P20.2, P20.3: each is signed by each algorithm, and verified by the other end's keys; only the MAC is turned.
func TestSign(t *testing.T) {
	for i, s := range tried(rand.New(rand.NewSource(206)), 500) {
		list := checks.Ways()
		if len(s.Data) > 1000 {
			list = list[i%2 : i%2+1]
		}
		for _, w := range list {
			for j, k := range allKeys() {
				sne := turns()[(i+j)%len(turns())]
				want := s
				want.Opts.MAC = macOf(t, k, k.Out, w, s, sne)
				got := signed(t, k, w, s, sne)
				if !checks.AlikeSegs(got, want) {
					t.Fatalf("%v: %s is signed as %s, not %s", k, brief(s), brief(got), brief(want))
				}
				verifies(t, "the other end", turned(k), w, got, sne, api.OK)
				verifies(t, "the same end", k, w, got, sne, api.ErrMac)
			}
		}
	}
}

// P20.3: what one end of a connection signs by its traffic keys, the other one verifies, both ways; no other connection's end does.
func TestBothEnds(t *testing.T) {
	chance := rand.New(rand.NewSource(207))
	for i := range 2000 {
		l, alg, opts := linkBy(chance), algs()[i%2], i%4 < 2
		master := checks.Bytes(chance.Intn, 1+chance.Intn(80))
		for _, l := range []link{l, l.back(), begun(l)} {
			here, there := l.keys(t, alg, master, opts), l.back().keys(t, alg, master, opts)
			sne := chance.Uint32()
			s := signed(t, here, l.way(), anySegment(chance), sne)
			verifies(t, "the other end", there, l.way(), s, sne, api.OK)
			verifies(t, "the other algorithm", l.back().keys(t, 3-alg, master, opts), l.way(), s, sne, api.ErrMac)
			verifies(t, "another master key", l.back().keys(t, alg, append(master[:len(master)-1:len(master)-1], master[len(master)-1]^1), opts), l.way(), s, sne, api.ErrMac)
			later := l.back()
			later.other++
			verifies(t, "another number", later.keys(t, alg, master, opts), l.way(), s, sne, api.ErrMac)
		}
	}
}

// P20.2: of a MAC with one bit turned, or any other, there is ErrMac.
func TestOtherMACs(t *testing.T) {
	for _, k := range allKeys() {
		for _, w := range checks.Ways() {
			s := signed(t, k, w, checks.Choosing(checks.Full(), checks.Sized(9)), 4)
			was := s.Opts.MAC
			for bit := range 96 {
				s.Opts.MAC = flipped(was, bit)
				verifies(t, "a bit turned", turned(k), w, s, 4, api.ErrMac)
			}
			for _, s.Opts.MAC = range macs() {
				verifies(t, "another MAC", turned(k), w, s, 4, api.ErrMac)
			}
			s.Opts.MAC = was
			verifies(t, "its own", turned(k), w, s, 4, api.OK)
		}
	}
}

// P20.2, P20.5: what differs in one field of what was signed is ErrMac, but for other options that are not covered; what has no AO any more, or may not be, is ErrArg.
func TestOtherSegments(t *testing.T) {
	w := checks.SixWay()
	for _, s := range []api.Seg{withAO(api.Seg{}), checks.Choosing(checks.Full(), checks.Sized(9)), checks.Choosing(options()[4], checks.Sized(40)), checks.Choosing(options()[len(options())-1], checks.Ordinary())} {
		for _, k := range allKeys() {
			good := signed(t, k, w, s, 6)
			many := map[api.Errno]int{}
			for _, q := range checks.DifferingSegs(good) {
				want := api.ErrMac
				switch {
				case !q.Opts.HasAO || !seg.May(q):
					want = api.ErrArg
				case !k.Opts && q.Opts.MAC == good.Opts.MAC && checks.AlikeSegs(told(q, false), told(good, false)):
					want = api.OK
				}
				verifies(t, "another segment", turned(k), w, q, 6, want)
				many[want]++
			}
			if many[api.ErrMac] < 40 || many[api.ErrArg] < 4 || many[api.OK] > 0 == k.Opts {
				t.Errorf("%s, %v: %v", brief(s), k, many)
			}
		}
	}
}

// P20.2, P20.5: each option that is turned alone, or comes or goes: ErrMac with options covered, OK without; KeyID and NextID are covered always.
func TestOtherOptions(t *testing.T) {
	list := options()
	for _, k := range allKeys() {
		for i, o := range list {
			s := signed(t, k, checks.FourWay(), checks.Choosing(o, checks.Sized(7)), 0)
			want := api.OK
			if k.Opts {
				want = api.ErrMac
			}
			for j, other := range list {
				if i != j {
					other.MAC = s.Opts.MAC
					verifies(t, "other options", turned(k), checks.FourWay(), checks.Choosing(other, s), 0, want)
				}
			}
			for bit := range 8 {
				first, second := s, s
				first.Opts.KeyID ^= 1 << bit
				second.Opts.NextID ^= 1 << bit
				verifies(t, "KeyID", turned(k), checks.FourWay(), first, 0, api.ErrMac)
				verifies(t, "NextID", turned(k), checks.FourWay(), second, 0, api.ErrMac)
			}
		}
	}
}

// P20.2: each bit of the data, of the number, and of the addresses' bytes is covered; the addresses have their places.
func TestEachBit(t *testing.T) {
	for _, k := range allKeys() {
		for _, w := range checks.Ways()[:2] {
			s := signed(t, k, w, checks.Choosing(checks.Full(), checks.Sized(19)), 1)
			for bit := range 8 * len(s.Data) {
				q := checks.CopiedSeg(s)
				q.Data[bit/8] ^= 0x80 >> (bit % 8)
				verifies(t, "the data", turned(k), w, q, 1, api.ErrMac)
			}
			for bit := range 32 {
				verifies(t, "the number", turned(k), w, s, 1^1<<bit, api.ErrMac)
			}
			for bit := range checks.Longest(w.Src) {
				verifies(t, "the source", turned(k), checks.FromTo(checks.Turned(w.Src, bit), w.Dst), s, 1, api.ErrMac)
				verifies(t, "the destination", turned(k), checks.FromTo(w.Src, checks.Turned(w.Dst, bit)), s, 1, api.ErrMac)
			}
			verifies(t, "both changed about", turned(k), checks.FromTo(w.Dst, w.Src), s, 1, api.ErrMac)
			verifies(t, "of the other kind", turned(k), checks.FromTo(checks.OtherKind(w.Src), checks.OtherKind(w.Dst)), s, 1, api.ErrMac)
			other := turned(k)
			other.Opts = !other.Opts
			verifies(t, "options covered otherwise", other, w, s, 1, api.ErrMac)
		}
	}
}

// P20.2: each bit of a key counts.
func TestEachBitOfKeys(t *testing.T) {
	s := withAO(checks.Sized(5))
	for _, k := range allKeys() {
		good := signed(t, k, checks.FourWay(), s, 1)
		for bit := range 8 * kdf.Size(k.Alg) {
			other := turned(k)
			other.In = append([]byte(nil), k.Out...)
			other.In[bit/8] ^= 0x80 >> (bit % 8)
			verifies(t, "another key", other, checks.FourWay(), good, 1, api.ErrMac)
		}
	}
}

// P20.4: what is signed twice is the same, whatever MAC it had.
func TestSignedTwice(t *testing.T) {
	for i, s := range fewer(rand.New(rand.NewSource(208)), 500) {
		for _, k := range allKeys() {
			w := checks.Ways()[i%8]
			once := signed(t, k, w, s, 9)
			if twice := signed(t, k, w, once, 9); !checks.AlikeSegs(once, twice) {
				t.Fatalf("%s, and signed twice %s", brief(once), brief(twice))
			}
			for _, s.Opts.MAC = range macs()[:10] {
				if again := signed(t, k, w, s, 9); !checks.AlikeSegs(once, again) {
					t.Fatalf("%s, and with another MAC %s", brief(once), brief(again))
				}
			}
		}
	}
}

// refuses holds that a segment is neither signed by keys nor verified by them turned, but an error told.
func refuses(t *testing.T, what string, k Keys, w checks.Way, s api.Seg, want api.Errno) {
	t.Helper()
	if got, e := Sign(k, w.Src, w.Dst, s, 3); e != want || !checks.AlikeSegs(got, api.Seg{}) || got.Data != nil || got.Opts.Sacks != nil {
		t.Fatalf("%s: Sign(%v, %s) = %s, %v, not %v", what, k, brief(s), brief(got), e, want)
	}
	verifies(t, what, turned(k), w, s, 3, want)
}

// wrongKey is a key that may not be, with layer 8's error of it.
type wrongKey struct {
	alg  int
	key  []byte
	want api.Errno
}

// wrongKeys are keys of no algorithm, whatever their length, and of lengths that are not their algorithm's.
func wrongKeys() []wrongKey {
	var out []wrongKey
	for _, alg := range checks.NoAlgs() {
		for _, n := range []int{0, 1, 15, 16, 17, 20, 21, 100} {
			out = append(out, wrongKey{alg, checks.Rising(n), api.ErrKind})
		}
		out = append(out, wrongKey{alg, nil, api.ErrKind})
	}
	for _, alg := range algs() {
		out = append(out, wrongKey{alg, nil, api.ErrArg}, wrongKey{alg, make([]byte, 0, kdf.Size(alg)), api.ErrArg})
		for _, n := range []int{0, 1, 12, 15, 16, 17, 19, 20, 21, 32, 40, 80, 81, 272, 276, 1<<16 + 16, 1<<16 + 20} {
			if n != kdf.Size(alg) {
				out = append(out, wrongKey{alg, checks.Rising(n), api.ErrArg})
			}
		}
	}
	return out
}

// P20.2, R1: layer 8's error of the MAC: ErrKind of an algorithm that is none, then ErrArg of a key of another length.
func TestWrongKeys(t *testing.T) {
	s := checks.Choosing(checks.Full(), checks.Sized(7))
	for _, c := range wrongKeys() {
		for _, opts := range []bool{true, false} {
			for _, w := range checks.Ways() {
				refuses(t, "a wrong key", Keys{Alg: c.alg, Out: c.key, In: checks.Rising(16), Opts: opts}, w, s, c.want)
				refuses(t, "two wrong keys", Keys{Alg: c.alg, Out: c.key, In: c.key, Opts: opts}, w, s, c.want)
			}
		}
	}
	refuses(t, "no keys", Keys{}, checks.FourWay(), s, api.ErrKind)
}

// P20.2: the key of the other way counts for nothing: neither the way in to Sign, nor the way out to Verify.
func TestOneKeyAlone(t *testing.T) {
	s := checks.Choosing(checks.Full(), checks.Sized(7))
	for _, k := range allKeys() {
		want := signed(t, k, checks.SixWay(), s, 3)
		for _, in := range [][]byte{nil, {}, checks.Rising(1), checks.Rising(100)} {
			half := k
			half.In = in
			if got := signed(t, half, checks.SixWay(), s, 3); !checks.AlikeSegs(got, want) {
				t.Errorf("%v: %s, not %s", half, brief(got), brief(want))
			}
			verifies(t, "one key", turned(half), checks.SixWay(), want, 3, api.OK)
		}
	}
}

// P20.2, R1: Bytes' error is told ahead of layer 8's.
func TestWrongSegments(t *testing.T) {
	for i, s := range wrongs() {
		for _, k := range append(allKeys(), Keys{}, Keys{Alg: kdf.AES}, Keys{Alg: -1, Out: checks.Rising(16), In: checks.Rising(16), Opts: true}) {
			refuses(t, "a wrong segment", k, checks.Ways()[i%8], s, api.ErrArg)
		}
	}
}
