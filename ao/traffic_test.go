package ao

import (
	"bytes"
	"math"
	"math/rand"
	"slices"
	"testing"

	"downhaul/addr"
	"downhaul/api"
	"downhaul/checks"
	"downhaul/kdf"
)

// numbers are initial numbers at their ends.
func numbers() []uint32 {
	return []uint32{0, 1, 255, 256, 0x01020304, 1<<31 - 1, 1 << 31, math.MaxUint32}
}

// masters are master keys that may be, of each length at the edges.
func masters() [][]byte {
	out := [][]byte{[]byte("testvector"), make([]byte, 16), slices.Repeat([]byte{255}, 80)}
	for _, n := range []int{1, 2, 15, 16, 17, 20, 63, 64, 65, 79, 80} {
		out = append(out, checks.Rising(n + 1)[1:])
	}
	return out
}

// links are connections of both kinds of addresses, with initial numbers at their ends.
func links() []link {
	var out []link
	for _, l := range []link{four(), six(), {}, six().back()} {
		for _, l.own = range numbers() {
			for _, l.other = range numbers() {
				out = append(out, l)
			}
		}
	}
	return out
}

// wayKey is by the chapter's words the traffic key of one way, from an end to another one.
func wayKey(t *testing.T, alg int, master []byte, src, dst api.End, srcISN, dstISN uint32) []byte {
	t.Helper()
	n := 4
	if src.Addr.Six {
		n = 16
	}
	context := slices.Concat(src.Addr.B[:n], dst.Addr.B[:n], checks.Big(2, uint32(src.Port), uint32(dst.Port)), checks.Big(4, srcISN, dstISN))
	key, e := kdf.Key(alg, master, context)
	if e != api.OK {
		t.Fatal(e)
	}
	return key
}

// holdKeys holds the traffic keys of a connection against the chapter's words, and against those of its other end.
func holdKeys(t *testing.T, l link, alg int, master []byte, opts bool) {
	t.Helper()
	k := l.keys(t, alg, master, opts)
	out := wayKey(t, alg, master, l.p.Local, l.p.Remote, l.own, l.other)
	in := wayKey(t, alg, master, l.p.Remote, l.p.Local, l.other, l.own)
	if !bytes.Equal(k.Out, out) || !bytes.Equal(k.In, in) || k.Alg != alg || k.Opts != opts {
		t.Fatalf("Traffic(%d, %x, %t) of %v = %+v, not %x, %x", alg, master, opts, l, k, out, in)
	}
	there := l.back().keys(t, alg, master, opts)
	if !bytes.Equal(there.In, k.Out) || !bytes.Equal(there.Out, k.In) {
		t.Fatalf("Traffic(%d, %x) of %v: %+v, and at the other end %+v", alg, master, l, k, there)
	}
	if l != l.back() && bytes.Equal(k.In, k.Out) {
		t.Fatalf("Traffic(%d, %x) of %v: one key, %x, for both ways", alg, master, l, k.In)
	}
}

// P20.1, P20.3: the keys of each algorithm, of ends of both kinds, and of initial numbers at their ends; the way out of one end is the way in of the other one.
func TestTraffic(t *testing.T) {
	for _, alg := range algs() {
		for i, l := range links() {
			holdKeys(t, l, alg, masters()[i%len(masters())], i%2 == 0)
		}
		for _, master := range masters() {
			for _, opts := range []bool{true, false} {
				holdKeys(t, four(), alg, master, opts)
				holdKeys(t, begun(six()), alg, master, opts)
			}
		}
	}
	chance := rand.New(rand.NewSource(200))
	for i := range 3000 {
		holdKeys(t, linkBy(chance), algs()[i%2], checks.Bytes(chance.Intn, 1+chance.Intn(80)), chance.Intn(2) == 0)
	}
}

// P20.1: an end whose other end has the same address, port and number has one key for both ways.
func TestSameEnds(t *testing.T) {
	for _, alg := range algs() {
		for _, l := range []link{four(), six()} {
			l.p.Remote, l.other = l.p.Local, l.own
			if k := l.keys(t, alg, []byte("k"), true); !bytes.Equal(k.In, k.Out) || len(k.In) != kdf.Size(alg) {
				t.Errorf("%+v", k)
			}
			holdKeys(t, l, alg, []byte("k"), true)
		}
	}
}

// P20.1: keys are others for another algorithm, master key, end or number; that options are covered turns none.
func TestOtherKeys(t *testing.T) {
	for _, l := range []link{four(), six(), {}} {
		list := []link{l}
		for bit := range 32 {
			number := uint32(1) << bit
			list = append(list, linked(l.p.Local, l.p.Remote, l.own^number, l.other), linked(l.p.Local, l.p.Remote, l.own, l.other^number))
		}
		for bit := range 16 {
			local, remote := l.p.Local, l.p.Remote
			local.Port ^= 1 << bit
			remote.Port ^= 1 << bit
			list = append(list, linked(local, l.p.Remote, l.own, l.other), linked(l.p.Local, remote, l.own, l.other))
		}
		for bit := range checks.Longest(l.p.Local.Addr) {
			local, remote := l.p.Local, l.p.Remote
			local.Addr, remote.Addr = checks.Turned(local.Addr, bit), checks.Turned(remote.Addr, bit)
			list = append(list, linked(local, l.p.Remote, l.own, l.other), linked(l.p.Local, remote, l.own, l.other))
		}
		seen := map[string]link{}
		for _, alg := range algs() {
			for _, master := range []string{"testvector", "testvectoR", "testvecto", "0123456789abcdef"} {
				for _, l := range list {
					k := l.keys(t, alg, []byte(master), true)
					if first, there := seen[string(k.Out)]; there {
						t.Fatalf("%v and %v have one key, %x", first, l, k.Out)
					}
					seen[string(k.Out)] = l
					if bare := l.keys(t, alg, []byte(master), false); !bytes.Equal(bare.Out, k.Out) || !bytes.Equal(bare.In, k.In) {
						t.Fatalf("%v: %+v, and without options %+v", l, k, bare)
					}
				}
			}
		}
	}
}

// P20.1: what stands behind the fourth byte of an address of four does not count.
func TestUnlikelyAddresses(t *testing.T) {
	l := four()
	want := l.keys(t, kdf.SHA1, []byte("k"), true)
	for _, local := range append(checks.Unlikely(10, 11, 12, 13), l.p.Local.Addr) {
		for _, remote := range append(checks.Unlikely(172, 27, 28, 29), l.p.Remote.Addr) {
			odd := l
			odd.p.Local.Addr, odd.p.Remote.Addr = local, remote
			if got := odd.keys(t, kdf.SHA1, []byte("k"), true); !alikeKeys(got, want) {
				t.Fatalf("%v: %+v, not %+v", odd, got, want)
			}
		}
	}
}

// alikeKeys tells whether keys are the same.
func alikeKeys(a, b Keys) bool {
	return a.Alg == b.Alg && bytes.Equal(a.Out, b.Out) && bytes.Equal(a.In, b.In) && a.Opts == b.Opts
}

// noKeys holds that there are no traffic keys, but an error.
func noKeys(t *testing.T, l link, alg int, master []byte, want api.Errno) {
	t.Helper()
	for _, opts := range []bool{true, false} {
		if k, e := Traffic(alg, master, opts, l.p, l.own, l.other); e != want || k.Out != nil || k.In != nil || !alikeKeys(k, Keys{}) {
			t.Errorf("Traffic(%d, %d bytes, %t) of %v = %+v, %v, not %v", alg, len(master), opts, l, k, e, want)
		}
	}
}

// P20.1, R1: layer 8's first error: of the context, ErrArg; then of the key: ErrKind of the algorithm, ErrArg of the master key.
func TestNoTraffic(t *testing.T) {
	wrongMasters := [][]byte{nil, {}, make([]byte, 0, 16), make([]byte, 81), make([]byte, 1000)}
	unlike := []link{four(), six(), {}}
	for i := range unlike {
		unlike[i].p.Remote.Addr = checks.OtherKind(unlike[i].p.Remote.Addr)
	}
	unlike = append(unlike, linked(four().p.Local, six().p.Remote, 1, 2), linked(six().p.Local, four().p.Remote, 0, 0))
	for _, l := range unlike {
		for _, l := range []link{l, l.back()} {
			for _, alg := range append(checks.NoAlgs(), algs()...) {
				for _, master := range append(wrongMasters, masters()...) {
					noKeys(t, l, alg, master, api.ErrArg)
				}
			}
		}
	}
	for _, l := range []link{four(), six(), begun(four()), {}, linked(api.End{Addr: addr.Four(1, 2, 3, 4)}, api.End{Addr: checks.Unlikely(1, 2, 3, 5)[3]}, 0, 0)} {
		for _, alg := range checks.NoAlgs() {
			for _, master := range append(wrongMasters, masters()...) {
				noKeys(t, l, alg, master, api.ErrKind)
			}
		}
		for _, alg := range algs() {
			for _, master := range wrongMasters {
				noKeys(t, l, alg, master, api.ErrArg)
			}
		}
	}
}
