package checks

import (
	"bytes"

	"downhaul/api"
)

// Wholly is a packet that is Whole.
func Wholly(p api.Packet) api.Packet { return With(p, func(p *api.Packet) { p.Whole = true }) }

// Followed is a packet with More.
func Followed(p api.Packet) api.Packet { return With(p, func(p *api.Packet) { p.More = true }) }

// At is a packet with an Off.
func At(off int, p api.Packet) api.Packet { return With(p, func(p *api.Packet) { p.Off = off }) }

// Numbered is a packet with an Id.
func Numbered(id uint32, p api.Packet) api.Packet {
	return With(p, func(p *api.Packet) { p.Id = id })
}

// Hopping is a packet with Hops.
func Hopping(hops uint8, p api.Packet) api.Packet {
	return With(p, func(p *api.Packet) { p.Hops = hops })
}

// Carrying is a packet with a Proto.
func Carrying(proto uint8, p api.Packet) api.Packet {
	return With(p, func(p *api.Packet) { p.Proto = proto })
}

// Between is a packet with both its addresses.
func Between(src, dst api.Addr, p api.Packet) api.Packet {
	return With(p, func(p *api.Packet) { p.Src, p.Dst = src, dst })
}

// Alike tells whether two packets are the same, by their fields.
func Alike(a, b api.Packet) bool {
	ways := a.Src == b.Src && a.Dst == b.Dst && a.Proto == b.Proto && a.Hops == b.Hops
	cut := a.Id == b.Id && a.Whole == b.Whole && a.More == b.More && a.Off == b.Off
	return ways && cut && bytes.Equal(a.Load, b.Load)
}

// Nothing tells whether a packet is the zero one.
func Nothing(p api.Packet) bool { return Alike(p, api.Packet{}) }

// Spoil writes into bytes, and behind them, as far as there is room.
func Spoil(b []byte) {
	b = b[:cap(b)]
	for i := range b {
		b[i] ^= 0x55
	}
}
