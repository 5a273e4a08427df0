package route

import (
	"math"
	"testing"

	"downhaul/addr"
	"downhaul/api"
	"downhaul/checks"
)

// samples are addresses of both kinds: of bytes 0, FF and others.
func samples() []api.Addr {
	var out []api.Addr
	for _, c := range []byte{0, 0xFF, 0xA5, 0x5A} {
		b := checks.Filled(c)
		out = append(out, checks.Address(b[:4]...), checks.Address(b[:]...))
	}
	return append(out, addr.Four(10, 11, 12, 13), addr.Six(0x2001, 0xDB8, 0, 0, 1, 0, 0, 1))
}

// on is a way to a prefix, without an address via.
func on(prefix api.Addr, length, port int) Way {
	return Way{Prefix: prefix, Length: length, Port: port}
}

// via is a way via an address.
func via(a api.Addr, w Way) Way {
	w.HasVia, w.Via = true, a
	return w
}

// mayByWords tells by the chapter's words whether a way may be.
func mayByWords(w Way) bool {
	if w.Length < 0 || w.Length > checks.Longest(w.Prefix) || checks.Masked(w.Prefix, w.Length) != w.Prefix {
		return false
	}
	if w.Port < 0 || w.Port > 255 {
		return false
	}
	if w.HasVia {
		return w.Via.Six == w.Prefix.Six && checks.Masked(w.Via, checks.Longest(w.Via)) == w.Via
	}
	return w.Via == api.Addr{}
}

// checkMay holds that a way may be, or that it may not.
func checkMay(t *testing.T, w Way, want bool) {
	t.Helper()
	if got := May(w); got != want {
		t.Errorf("May(%+v) = %t", w, got)
	}
}

// P16.1: a prefix is masked to itself: each bit within its length may be any, and each one behind it, up to the last of sixteen bytes, must be 0.
func TestMayPrefixes(t *testing.T) {
	for _, a := range samples() {
		for length := range checks.Longest(a) + 1 {
			w := on(checks.Masked(a, length), length, 1)
			checkMay(t, w, true)
			for bit := range 128 {
				turned := w
				turned.Prefix = checks.Turned(w.Prefix, bit)
				checkMay(t, turned, bit < length)
			}
		}
	}
	for _, b := range checks.Edges() {
		checkMay(t, on(checks.Address(b[:]...), 128, 0), true)
		checkMay(t, on(checks.Address(b[:4]...), 32, 0), true)
		checkMay(t, on(api.Addr{B: b}, 32, 0), [12]byte(b[4:]) == [12]byte{})
	}
}

// P16.1: of an IPv4's prefix the bytes behind the four are 0.
func TestMayBehindTheFourth(t *testing.T) {
	for _, a := range checks.Unlikely(10, 0, 0, 0) {
		for length := -1; length <= 129; length++ {
			checkMay(t, on(a, length, 0), false)
		}
		checkMay(t, on(checks.OtherKind(a), 128, 0), true)
	}
}

// P16.1: lengths that no prefix of its kind has, also of a prefix of all bits 0.
func TestMayWrongLengths(t *testing.T) {
	for _, a := range append(samples(), api.Addr{}, api.Addr{Six: true}) {
		lengths := checks.WrongLengths(a)
		for length := checks.Longest(a) + 1; length <= 300; length++ {
			lengths = append(lengths, length, -length)
		}
		for _, length := range lengths {
			checkMay(t, on(a, length, 0), false)
			checkMay(t, via(a, on(a, length, 0)), false)
		}
	}
}

// wrongPorts are ports that no way has.
func wrongPorts() []int {
	return []int{-1, -2, -255, -256, 256, 257, 511, 512, 1 << 16, 1<<16 + 1, 1 << 31, 1 << 32, 1<<32 + 1, -1 << 32, 1 - 1<<32, math.MaxInt32, math.MinInt32, math.MaxInt - 1, math.MaxInt, math.MinInt, math.MinInt + 1}
}

// P16.1: ports from 0 to 255, and others.
func TestMayPorts(t *testing.T) {
	for _, a := range samples() {
		w := on(checks.Masked(a, 8), 8, 0)
		for w.Port = -600; w.Port <= 600; w.Port++ {
			checkMay(t, w, w.Port >= 0 && w.Port <= 255)
			checkMay(t, via(a, w), w.Port >= 0 && w.Port <= 255)
		}
		for _, w.Port = range wrongPorts() {
			checkMay(t, w, false)
			checkMay(t, via(a, w), false)
		}
	}
}

// P16.1: an address via is one of the prefix's kind, whatever it is otherwise, also the prefix itself, one of many, and that of all bits 0.
func TestMayVias(t *testing.T) {
	for _, a := range samples() {
		for _, length := range []int{0, 1, 8, checks.Longest(a)} {
			w := on(checks.Masked(a, length), length, 255)
			for _, b := range checks.Edges() {
				four, six := checks.Address(b[:4]...), checks.Address(b[:]...)
				checkMay(t, via(four, w), !a.Six)
				checkMay(t, via(six, w), a.Six)
			}
			for _, b := range samples() {
				checkMay(t, via(b, w), a.Six == b.Six)
			}
			checkMay(t, via(w.Prefix, w), true)
			checkMay(t, via(api.Addr{}, w), !a.Six)
			checkMay(t, via(api.Addr{Six: true}, w), a.Six)
			checkMay(t, via(addr.Four(224, 0, 0, 1), w), !a.Six)
			checkMay(t, via(addr.Six(0xFF02, 0, 0, 0, 0, 0, 0, 1), w), a.Six)
			for _, b := range checks.Unlikely(10, 0, 0, 1) {
				checkMay(t, via(b, w), false)
				checkMay(t, via(checks.OtherKind(b), w), a.Six)
			}
		}
	}
}

// strays are what a Via may not be where there is none: it is not 0, by its kind or by one bit at least.
func strays() []api.Addr {
	out := append(samples()[1:], api.Addr{Six: true}, addr.Four(10, 0, 0, 1), addr.Six(1))
	for bit := range 128 {
		out = append(out, checks.Turned(api.Addr{}, bit), checks.Turned(api.Addr{Six: true}, bit))
	}
	return append(out, checks.Unlikely(0, 0, 0, 0)...)
}

// P16.1: without an address via, Via is 0, of IPv6 too.
func TestMayNoVia(t *testing.T) {
	for _, a := range samples() {
		for _, length := range []int{0, 1, 8, checks.Longest(a)} {
			w := on(checks.Masked(a, length), length, 9)
			checkMay(t, w, true)
			for _, w.Via = range strays() {
				checkMay(t, w, false)
			}
		}
	}
}

// impossible are ways that may not be, of both kinds, each for one reason, but the last ones, for some.
func impossible() []Way {
	four, six := on(addr.Four(10, 1, 0, 0), 16, 3), on(addr.Six(0x2001, 0xDB8), 32, 4)
	out := []Way{
		on(four.Prefix, 15, 3), on(four.Prefix, 0, 3), on(addr.Four(10, 1, 128, 0), 16, 3), on(addr.Four(10, 1, 0, 1), 31, 3),
		on(six.Prefix, 28, 4), on(six.Prefix, 0, 4), on(addr.Six(0x2001, 0xDB8, 0x8000), 32, 4), on(addr.Six(0, 0, 0, 0, 0, 0, 0, 1), 127, 4),
		via(six.Prefix, four), via(four.Prefix, six),
	}
	for _, w := range []Way{four, six} {
		for _, length := range checks.WrongLengths(w.Prefix) {
			out = append(out, on(w.Prefix, length, 1), on(api.Addr{Six: w.Prefix.Six}, length, 1))
		}
		for _, port := range wrongPorts() {
			out = append(out, on(w.Prefix, w.Length, port), via(w.Prefix, on(w.Prefix, w.Length, port)))
		}
		for _, a := range strays() {
			stray := w
			stray.Via = a
			out = append(out, stray)
		}
		for _, a := range checks.Unlikely(10, 0, 0, 1) {
			out = append(out, via(a, w))
		}
	}
	for _, a := range checks.Unlikely(10, 1, 0, 0) {
		out = append(out, on(a, 16, 3), on(a, 32, 3), via(four.Prefix, on(a, 16, 3)), via(a, on(a, 129, 256)))
	}
	return append(out, via(four.Prefix, on(six.Prefix, 129, -1)), Way{Prefix: four.Prefix, Length: -1, Port: 256, Via: six.Prefix})
}

// P16.1: what may not be, by the chapter's words, too.
func TestMayImpossible(t *testing.T) {
	for _, w := range impossible() {
		if mayByWords(w) {
			t.Errorf("%v may be", w)
		}
		checkMay(t, w, false)
	}
	// The zero way leads all of IPv4 to the port 0.
	checkMay(t, Way{}, true)
	checkMay(t, Way{Prefix: api.Addr{Six: true}}, true)
}
