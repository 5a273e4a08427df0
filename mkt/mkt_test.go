package mkt

import (
	"bytes"
	"math"
	"slices"
	"strconv"
	"strings"
	"testing"

	"downhaul/addr"
	"downhaul/api"
	"downhaul/checks"
	"downhaul/kdf"
)

// read is the address of a text that must be one.
func read(t *testing.T, text string) api.Addr {
	t.Helper()
	a, e := addr.Parse(text)
	if e != api.OK {
		t.Fatalf("Parse(%q): %v", text, e)
	}
	return a
}

// of is a key tuple that may be, if its prefix is masked: of any ports.
func of(prefix api.Addr, length int, send, recv uint8) Key {
	return Key{Prefix: prefix, Length: length, SendID: send, RecvID: recv, Alg: kdf.SHA1, Master: []byte("testvector")}
}

// key is one that may be, of a prefix by its text, such as 10.0.0.0/8.
func key(t *testing.T, text string, send, recv uint8) Key {
	t.Helper()
	prefix, length, _ := strings.Cut(text, "/")
	n, err := strconv.Atoi(length)
	if err != nil {
		t.Fatal(err)
	}
	return of(read(t, prefix), n, send, recv)
}

// ported is a key tuple of these ports.
func ported(local, remote uint16, k Key) Key {
	k.LocalPort, k.RemotePort = local, remote
	return k
}

// numbered is a key tuple of a number.
func numbered(n int, k Key) Key {
	k.N = n
	return k
}

// masked is one of a length, whose prefix is the first of an address.
func masked(a api.Addr, length int) Key { return of(checks.Masked(a, length), length, 61, 84) }

// same tells whether two key tuples are the same, by their fields.
func same(a, b Key) bool {
	who := a.N == b.N && a.Prefix == b.Prefix && a.Length == b.Length && a.LocalPort == b.LocalPort && a.RemotePort == b.RemotePort
	how := a.SendID == b.SendID && a.RecvID == b.RecvID && a.Alg == b.Alg && a.Opts == b.Opts
	return who && how && bytes.Equal(a.Master, b.Master)
}

// samples are addresses of both kinds: of bytes 0, FF and others.
func samples() []api.Addr {
	var out []api.Addr
	for _, c := range []byte{0, 0xFF, 0xA5, 0x5A} {
		b := checks.Filled(c)
		out = append(out, checks.Address(b[:4]...), checks.Address(b[:]...))
	}
	return append(out, addr.Four(10, 11, 12, 13), addr.Six(0x2001, 0xDB8, 0, 0, 1, 0, 0, 1))
}

// wrongAlgs are numbers of no algorithm.
func wrongAlgs() []int {
	return []int{0, -1, -2, 3, 4, 255, 256, 257, 258, 1 << 16, 1<<32 + 1, 1<<32 + 2, math.MinInt, math.MinInt + 1, math.MaxInt - 1, math.MaxInt}
}

// impossible are key tuples that may not be, each for one thing alone.
func impossible() []Key {
	var out []Key
	for _, a := range []api.Addr{addr.Four(10, 1, 0, 0), addr.Six(0xA01), addr.Four(0, 0, 0, 0), addr.Six()} {
		good := of(a, 16, 61, 84)
		for _, length := range checks.WrongLengths(a) {
			out = append(out, of(a, length, 61, 84))
		}
		for _, bit := range []int{16, 17, 31, 32, 64, 127} {
			out = append(out, of(checks.Turned(a, bit), 16, 61, 84))
		}
		for _, alg := range wrongAlgs() {
			out = append(out, checks.With(good, func(k *Key) { k.Alg = alg }))
		}
		for _, master := range [][]byte{nil, {}, make([]byte, 81), make([]byte, 82), make([]byte, 256), make([]byte, 1<<16)} {
			out = append(out, checks.With(good, func(k *Key) { k.Master = master }))
		}
	}
	for _, a := range checks.Unlikely(10, 0, 0, 0) {
		out = append(out, of(a, 8, 61, 84), of(a, 32, 61, 84))
	}
	return append(out, Key{}, Key{Alg: kdf.AES}, Key{Master: []byte{1}})
}

// mayByWords tells by the chapter's words whether a key tuple may be.
func mayByWords(k Key) bool {
	if k.Length < 0 || k.Length > checks.Longest(k.Prefix) || checks.Masked(k.Prefix, k.Length) != k.Prefix {
		return false
	}
	return (k.Alg == 1 || k.Alg == 2) && len(k.Master) >= 1 && len(k.Master) <= 80
}

// checkMay holds that a key tuple may be, or that it may not.
func checkMay(t *testing.T, k Key, want bool) {
	t.Helper()
	if got := May(k); got != want {
		t.Errorf("May(%+v) = %t", k, got)
	}
}

// The chapter's example.
func TestExample(t *testing.T) {
	wide, near := key(t, "10.0.0.0/8", 1, 2), key(t, "10.1.0.0/16", 1, 3)
	for _, order := range [][2]Key{{wide, near}, {near, wide}} {
		r := New()
		if n, e := r.Add(order[0]); n != 1 || e != api.OK {
			t.Errorf("the first one: %d, %v", n, e)
		}
		if n, e := r.Add(order[1]); n != 0 || e != api.ErrThere {
			t.Errorf("the second one: %d, %v", n, e)
		}
		if all := r.All(); len(all) != 1 || !same(all[0], numbered(1, order[0])) {
			t.Error(all)
		}
	}
}

// P19.1: a prefix is masked to itself: each bit within its length may be any, and each one behind it, up to the last of sixteen bytes, must be 0.
func TestMayPrefixes(t *testing.T) {
	for _, a := range samples() {
		for length := range checks.Longest(a) + 1 {
			k := masked(a, length)
			checkMay(t, k, true)
			for bit := range 128 {
				turned := k
				turned.Prefix = checks.Turned(k.Prefix, bit)
				checkMay(t, turned, bit < length)
			}
		}
	}
	for _, b := range checks.Edges() {
		checkMay(t, of(checks.Address(b[:]...), 128, 1, 1), true)
		checkMay(t, of(checks.Address(b[:4]...), 32, 1, 1), true)
		checkMay(t, of(api.Addr{B: b}, 32, 1, 1), [12]byte(b[4:]) == [12]byte{})
	}
}

// P19.1: lengths below 0, and those that are too great for the prefix's kind, may not be.
func TestMayLengths(t *testing.T) {
	for _, a := range append(samples(), api.Addr{}, api.Addr{Six: true}) {
		for _, length := range checks.WrongLengths(a) {
			checkMay(t, of(a, length, 1, 1), false)
		}
	}
	for length := -300; length < 300; length++ {
		checkMay(t, of(api.Addr{}, length, 1, 1), length >= 0 && length <= 32)
		checkMay(t, of(api.Addr{Six: true}, length, 1, 1), length >= 0 && length <= 128)
	}
	for length := 33; length <= 128; length++ {
		checkMay(t, of(addr.Six(0x102, 0x300), length, 1, 1), true)
		checkMay(t, of(addr.Four(1, 2, 3, 0), length, 1, 1), false)
	}
}

// P19.1: a prefix of four bytes has no others behind its fourth, whatever its length is.
func TestMayBehindTheFourth(t *testing.T) {
	for _, a := range slices.Concat(checks.Unlikely(0, 0, 0, 0), checks.Unlikely(10, 11, 12, 13)) {
		for length := -1; length <= 130; length++ {
			checkMay(t, of(a, length, 1, 1), false)
		}
	}
}

// P19.1: the algorithms are layer 8's, with any prefix and any master key.
func TestMayAlgorithms(t *testing.T) {
	for _, text := range []string{"10.0.0.0/8", "::/0", "255.255.255.255/32"} {
		for _, size := range []int{1, 16, 20, 80} {
			k := key(t, text, 1, 2)
			k.Master = make([]byte, size)
			for _, k.Alg = range []int{kdf.SHA1, kdf.AES} {
				checkMay(t, k, true)
			}
			for _, k.Alg = range wrongAlgs() {
				checkMay(t, k, false)
			}
		}
	}
	for alg := -1000; alg < 1000; alg++ {
		k := key(t, "10.0.0.0/8", 1, 2)
		k.Alg = alg
		checkMay(t, k, alg == 1 || alg == 2)
	}
}

// P19.1: a master key has 1 to 80 bytes, whatever these are, and by whatever algorithm: just those of which layer 8 makes keys.
func TestMayMasters(t *testing.T) {
	for _, alg := range []int{kdf.SHA1, kdf.AES} {
		for _, c := range []byte{0, 1, 0xFF} {
			for size := range 300 {
				k := key(t, "10.0.0.0/8", 1, 2)
				k.Alg, k.Master = alg, bytes.Repeat([]byte{c}, size)
				checkMay(t, k, size >= 1 && size <= 80)
				if _, e := kdf.Key(alg, k.Master, nil); (e == api.OK) != May(k) {
					t.Errorf("of %d bytes layer 8 answers %v", size, e)
				}
			}
		}
		for _, master := range [][]byte{nil, {}, make([]byte, 0, 80), make([]byte, 1<<20)} {
			k := key(t, "10.0.0.0/8", 1, 2)
			k.Alg, k.Master = alg, master
			checkMay(t, k, false)
		}
		// What stands behind its bytes counts for nothing.
		k := key(t, "10.0.0.0/8", 1, 2)
		k.Alg, k.Master = alg, make([]byte, 80, 200)
		checkMay(t, k, true)
	}
}

// indifferent turn what counts for nothing where it is asked whether a key tuple may be: its number, its ports, SendID, RecvID, and whether options are covered.
func indifferent() []func(k *Key) {
	out := []func(k *Key){func(k *Key) { k.Opts = !k.Opts }}
	for _, n := range []int{math.MinInt, -1, 0, 1, 2, 33, math.MaxInt32, math.MaxInt32 + 1, math.MaxInt} {
		out = append(out, func(k *Key) { k.N = n })
	}
	for _, port := range []uint16{0, 1, 80, 255, 256, 1 << 15, math.MaxUint16} {
		out = append(out, func(k *Key) { k.LocalPort = port }, func(k *Key) { k.RemotePort = port })
	}
	for _, id := range []uint8{0, 1, 127, 128, 255} {
		out = append(out, func(k *Key) { k.SendID = id }, func(k *Key) { k.RecvID = id }, func(k *Key) { k.SendID, k.RecvID = id, id })
	}
	return out
}

// P19.1: all else counts for nothing.
func TestMayWhateverElse(t *testing.T) {
	for _, turn := range indifferent() {
		for _, text := range []string{"10.0.0.0/8", "2001:db8::/32", "0.0.0.0/0"} {
			checkMay(t, checks.With(key(t, text, 3, 4), turn), true)
		}
		for _, k := range impossible() {
			checkMay(t, checks.With(k, turn), false)
		}
	}
}
