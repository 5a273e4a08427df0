package mkt

import (
	"math"
	"testing"

	"downhaul/addr"
	"downhaul/api"
	"downhaul/checks"
)

// ports are ports, of which 0 stands for any as a key tuple's own.
func ports() []uint16 { return []uint16{0, 1, 80, 81, 80 << 8, 255, 256, 1 << 15, math.MaxUint16} }

// between is a pair of two addresses and two ports.
func between(local api.Addr, localPort uint16, remote api.Addr, remotePort uint16) api.Pair {
	return api.Pair{Local: api.End{Addr: local, Port: localPort}, Remote: api.End{Addr: remote, Port: remotePort}}
}

// toward is a pair of that remote address.
func toward(remote api.Addr) api.Pair {
	local := addr.Four(192, 168, 1, 2)
	if remote.Six {
		local = addr.Six(0xFE80, 0, 0, 0, 0, 0, 0, 1)
	}
	return between(local, 80, remote, 1024)
}

// governsByWords tells by the chapter's words whether a key tuple governs a pair.
func governsByWords(k Key, p api.Pair) bool {
	local := k.LocalPort == 0 || k.LocalPort == p.Local.Port
	remote := k.RemotePort == 0 || k.RemotePort == p.Remote.Port
	return checks.Lies(p.Remote.Addr, k.Prefix, k.Length) && local && remote
}

// checkGoverns holds that a key tuple governs a pair, or that it does not.
func checkGoverns(t *testing.T, k Key, p api.Pair, want bool) {
	t.Helper()
	if got := Governs(k, p); got != want {
		t.Errorf("Governs(%+v, %v) = %t", k, p, got)
	}
}

// P19.1: of each length, a remote address of which one bit is turned lies in the prefix if that bit is behind the length.
func TestGovernsPrefixes(t *testing.T) {
	for _, a := range samples() {
		for length := range checks.Longest(a) + 1 {
			k := masked(a, length)
			checkGoverns(t, k, toward(a), true)
			checkGoverns(t, k, toward(k.Prefix), true)
			for bit := range checks.Longest(a) {
				checkGoverns(t, k, toward(checks.Turned(a, bit)), bit >= length)
			}
		}
	}
	k := key(t, "10.1.0.0/16", 1, 2)
	for text, want := range map[string]bool{"10.1.0.0": true, "10.1.255.255": true, "10.0.255.255": false, "10.2.0.0": false, "11.1.0.0": false, "a01::": false, "::10": false} {
		checkGoverns(t, k, toward(read(t, text)), want)
	}
}

// P19.1: a remote address of the other kind lies in no prefix, not even in that of length 0.
func TestGovernsOtherKind(t *testing.T) {
	for _, a := range samples() {
		other := checks.OtherKind(a)
		for length := range checks.Longest(a) + 1 {
			checkGoverns(t, masked(a, length), toward(other), false)
			checkGoverns(t, masked(a, length), between(a, 80, other, 80), false)
		}
		for _, b := range samples() {
			checkGoverns(t, masked(a, 0), toward(b), a.Six == b.Six)
		}
	}
}

// P19.1: each port is its own, or its own is 0; a pair's port 0 is just that of a key tuple of any.
func TestGovernsPorts(t *testing.T) {
	for _, text := range []string{"10.0.0.1/32", "2001:db8::/32"} {
		k := key(t, text, 1, 2)
		for _, k.LocalPort = range ports() {
			for _, k.RemotePort = range ports() {
				for _, local := range ports() {
					for _, remote := range ports() {
						p := between(k.Prefix, local, k.Prefix, remote)
						fits := (k.LocalPort == 0 || k.LocalPort == local) && (k.RemotePort == 0 || k.RemotePort == remote)
						checkGoverns(t, k, p, fits)
						p.Remote.Addr = checks.Turned(p.Remote.Addr, 0)
						checkGoverns(t, k, p, false)
					}
				}
			}
		}
	}
}

// P19.1: the local address counts for nothing, whatever it is, and of whatever kind.
func TestGovernsLocalAddress(t *testing.T) {
	k := ported(80, 1024, key(t, "10.0.0.0/8", 1, 2))
	for _, local := range append(samples(), checks.Unlikely(10, 0, 0, 1)...) {
		checkGoverns(t, k, between(local, 80, addr.Four(10, 9, 9, 9), 1024), true)
		checkGoverns(t, k, between(local, 80, addr.Four(11, 9, 9, 9), 1024), false)
		checkGoverns(t, k, between(local, 1024, addr.Four(10, 9, 9, 9), 80), false)
		// Nor does it lie in the prefix in the remote one's stead.
		checkGoverns(t, k, between(addr.Four(10, 9, 9, 9), 80, local, 1024), checks.Lies(local, k.Prefix, 8))
	}
}

// P19.1: a remote address of four that has bytes behind its fourth lies where its four do.
func TestGovernsUnlikely(t *testing.T) {
	for length := range 33 {
		k := masked(addr.Four(10, 11, 12, 13), length)
		for _, a := range checks.Unlikely(10, 11, 12, 13) {
			checkGoverns(t, k, toward(a), true)
		}
		for bit := range 32 {
			for _, a := range checks.Unlikely(10, 11, 12, 13) {
				checkGoverns(t, k, toward(checks.Turned(a, bit)), bit >= length)
			}
		}
	}
}

// P19.1: of a length that may not be no address lies in the prefix.
func TestGovernsWrongLengths(t *testing.T) {
	for _, a := range append(samples(), api.Addr{}, api.Addr{Six: true}) {
		for _, length := range checks.WrongLengths(a) {
			checkGoverns(t, of(a, length, 1, 2), toward(a), false)
			checkGoverns(t, of(a, length, 1, 2), api.Pair{}, false)
		}
	}
}

// P19.1: what else a key tuple has counts for nothing, also if it may not be.
func TestGovernsWhateverElse(t *testing.T) {
	k := ported(80, 1024, key(t, "10.1.0.0/16", 1, 2))
	in, out := toward(addr.Four(10, 1, 2, 3)), toward(addr.Four(10, 2, 2, 3))
	var turns []func(k *Key)
	for _, alg := range append(wrongAlgs(), 1, 2) {
		turns = append(turns, func(k *Key) { k.Alg = alg })
	}
	for _, master := range [][]byte{nil, {}, {1}, make([]byte, 80), make([]byte, 81), make([]byte, 1<<16)} {
		turns = append(turns, func(k *Key) { k.Master = master })
	}
	for id := range 256 {
		turns = append(turns, func(k *Key) { k.SendID, k.RecvID = uint8(id), ^uint8(id) })
	}
	for _, n := range []int{math.MinInt, -1, 1, math.MaxInt} {
		turns = append(turns, func(k *Key) { k.N, k.Opts = n, true })
	}
	for bit := 16; bit < 128; bit++ {
		turns = append(turns, func(k *Key) { k.Prefix = checks.Turned(k.Prefix, bit) })
	}
	for _, turn := range turns {
		checkGoverns(t, checks.With(k, turn), in, true)
		checkGoverns(t, checks.With(k, turn), out, false)
	}
}
