package checks

import (
	"slices"

	"downhaul/api"
)

// Way are the two addresses between which something goes.
type Way struct{ Src, Dst api.Addr }

// FromTo is the way from an address to another one.
func FromTo(src, dst api.Addr) Way { return Way{src, dst} }

// FourWay is a way between addresses of four bytes.
func FourWay() Way {
	return Way{api.Addr{B: [16]byte{192, 168, 1, 2}}, api.Addr{B: [16]byte{10, 11, 12, 13}}}
}

// SixWay is a way between addresses of sixteen bytes.
func SixWay() Way {
	return Way{
		api.Addr{Six: true, B: [16]byte{0x20, 1, 0xD, 0xB8, 0, 0, 0, 0, 0, 1, 0, 0, 0, 0, 0, 1}},
		api.Addr{Six: true, B: [16]byte{0xFE, 0x80, 0, 0, 0, 0, 0, 0, 0x12, 0x34, 0x56, 0x78, 0x9A, 0xBC, 0xDE, 0xF0}},
	}
}

// Ways are those that layer 3 tells apart, also such that no packet has.
func Ways() []Way {
	four, six, odd := FourWay(), SixWay(), api.Addr{B: Filled(0xA5)}
	last := api.Addr{B: [16]byte{255, 255, 255, 255}}
	return []Way{four, six, {}, {four.Src, six.Dst}, {six.Src, four.Dst}, {odd, four.Dst}, {odd, six.Dst}, {last, last}}
}

// Sum is the sum of a pseudo header of a protocol, whose numbers stand in another order here, and of bytes.
func (w Way) Sum(proto byte, b []byte) uint16 {
	n, size := 4, uint32(uint16(len(b)))
	if w.Src.Six || w.Dst.Six {
		n, size = 16, uint32(len(b))
	}
	ahead := []byte{0, proto, byte(size >> 24), byte(size >> 16), byte(size >> 8), byte(size)}
	return Sum(slices.Concat(ahead, w.Dst.B[:n], w.Src.B[:n], b))
}
