package checks

import (
	"math"

	"downhaul/api"
)

// Address is an address of its bytes, four or sixteen.
func Address(b ...byte) api.Addr {
	a := api.Addr{Six: len(b) == 16}
	copy(a.B[:], b)
	return a
}

// AnyAddress is an address by chance, that may be: of either kind, and often with bytes 0 or FF in a run.
func AnyAddress(chance func(m int) int) api.Addr {
	b := Bytes(chance, []int{4, 16}[chance(2)])
	for range chance(3) {
		from := chance(len(b))
		for i := range b[from : from+chance(len(b)-from)+1] {
			b[from+i] = []byte{0, 0, 0, 0xFF}[chance(4)]
		}
	}
	return Address(b...)
}

// Unlikely are addresses of four, each of which has bytes behind its fourth, so that it may not be.
func Unlikely(b ...byte) []api.Addr {
	var out []api.Addr
	for at := 4; at < 16; at++ {
		for _, c := range []byte{1, 0x80, 0xFF} {
			a := Address(b...)
			a.B[at] = c
			out = append(out, a)
		}
	}
	all := Address(b...)
	all.B = Filled(0xFF)
	copy(all.B[:], b)
	return append(out, all)
}

// Turned is an address with one bit turned; the bit 0 is the highest one.
func Turned(a api.Addr, bit int) api.Addr {
	a.B = Flipped(a.B, bit)
	return a
}

// OtherKind is an address of the other kind, with the same sixteen bytes.
func OtherKind(a api.Addr) api.Addr {
	a.Six = !a.Six
	return a
}

// Longest is the greatest length of a prefix of an address's kind.
func Longest(a api.Addr) int {
	if a.Six {
		return 128
	}
	return 32
}

// WrongLengths are lengths that no prefix of an address's kind has.
func WrongLengths(a api.Addr) []int {
	n := Longest(a)
	return []int{-1, -2, -8, -n, -256, -1 << 32, math.MinInt, math.MinInt + 1, n + 1, n + 8, 129, 136, 256, 256 + n, 1 << 16, 1<<32 + 8, 1<<32 + n, math.MaxInt - 1, math.MaxInt}
}

// Masked is by the words of layer 9 an address of whose sixteen bytes all bits behind the length are 0.
func Masked(a api.Addr, length int) api.Addr {
	for bit := length; bit < 128; bit++ {
		a.B[bit/8] &^= 0x80 >> (bit % 8)
	}
	return a
}

// Lies tells by the words of layer 9 whether an address lies in a prefix: bit by bit.
func Lies(a, prefix api.Addr, length int) bool {
	if length < 0 || length > Longest(a) || a.Six != prefix.Six {
		return false
	}
	for bit := range length {
		if (a.B[bit/8]^prefix.B[bit/8])>>(7-bit%8)&1 != 0 {
			return false
		}
	}
	return true
}
