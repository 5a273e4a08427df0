package checks

import (
	"bytes"
	"math"
	"slices"

	"downhaul/api"
)

// Ordinary is a segment that may be, with that data.
func Ordinary(data ...byte) api.Seg {
	return api.Seg{Src: 43210, Dst: 22, Seq: 0x01020304, Ack: 0xA0B0C0D0, Flags: api.Psh | api.Ack, Window: 501, Data: data}
}

// Sized is an ordinary segment with n bytes of data.
func Sized(n int) api.Seg { return Ordinary(Rising(n)...) }

// Flagged is a segment with flags.
func Flagged(flags uint8, s api.Seg) api.Seg {
	return With(s, func(s *api.Seg) { s.Flags = flags })
}

// Choosing is a segment with options.
func Choosing(o api.Opts, s api.Seg) api.Seg {
	return With(s, func(s *api.Seg) { s.Opts = o })
}

// Options may be: of no bytes, of 4, of 8 and so on up to just 40.
func Options() []api.Opts {
	k, none := Kinds(), api.Opts{}
	return []api.Opts{
		none,
		With(none, k[0]),
		With(none, k[0], k[2]),
		With(none, k[3]),
		With(none, k[4]),
		With(none, k[0], k[4]),
		With(none, k[0], k[1], k[3], k[2], Runs(0)),
		With(none, k[3], k[4]),
		With(none, k[0], k[3], k[4]),
		Full(),
		With(none, k[3], k[4], Runs(1)),
		With(none, k[3], k[0], Runs(3)),
		With(none, k[0], k[2], Runs(4)),
	}
}

// WrongOptions may not be, for one reason each.
func WrongOptions() []api.Opts {
	k, none := Kinds(), api.Opts{}
	out := []api.Opts{
		{HasScale: true, Scale: 15},
		{HasScale: true, Scale: 255},
		With(none, Runs(5)),
		With(none, Runs(100)),
		With(none, k[0], k[1], Runs(4)), // 44 bytes
		With(none, k[3], k[4], Runs(2)),
	}
	for _, stray := range Strays() {
		out = append(out, With(none, stray), With(Full(), stray))
	}
	return out
}

// Fields turn one field each to an end of it.
func Fields() []func(s *api.Seg) {
	var out []func(s *api.Seg)
	for _, n := range []uint16{0, 1, 255, 256, 1<<15 - 1, 1 << 15, math.MaxUint16} {
		out = append(out,
			func(s *api.Seg) { s.Src = n }, func(s *api.Seg) { s.Dst = n },
			func(s *api.Seg) { s.Window = n }, func(s *api.Seg) { s.Urgent = n })
	}
	for _, n := range []uint32{0, 1, 1<<31 - 1, 1 << 31, math.MaxUint32} {
		out = append(out, func(s *api.Seg) { s.Seq = n }, func(s *api.Seg) { s.Ack = n })
	}
	for n := range uint8(64) {
		out = append(out, func(s *api.Seg) { s.Flags = n })
	}
	for _, o := range Options() {
		out = append(out, func(s *api.Seg) { s.Opts = o })
	}
	for _, n := range []int{0, 1, 2, 3, 535, 536, 16383, 16384} {
		out = append(out, func(s *api.Seg) { s.Data = Rising(n) })
	}
	return out
}

// Segments are such that may be: each field at its ends, alone and beside others.
func Segments() []api.Seg {
	full := Choosing(Full(), Sized(5))
	full.Urgent = 9
	out := []api.Seg{{}, full, {Data: []byte{}}}
	for _, turn := range Fields() {
		out = append(out, With(api.Seg{}, turn), With(full, turn))
	}
	for _, o := range Options() {
		out = append(out, Choosing(o, Sized(16383)), Choosing(o, Sized(16384)))
	}
	all := func(n uint32) api.Seg {
		return api.Seg{Src: uint16(n), Dst: uint16(n), Seq: n, Ack: n, Flags: uint8(n) & 63, Window: uint16(n), Urgent: uint16(n), Data: bytes.Repeat([]byte{byte(n)}, 16384)}
	}
	return append(out, all(0), all(math.MaxUint32), Choosing(Options()[12], all(math.MaxUint32)))
}

// WrongSegments are such that may not be, each for one reason.
func WrongSegments() []api.Seg {
	var out []api.Seg
	for _, o := range WrongOptions() {
		out = append(out, Choosing(o, api.Seg{}), Choosing(o, Sized(9)))
	}
	for flags := 64; flags < 256; flags++ {
		out = append(out, Flagged(uint8(flags), api.Seg{}), Flagged(uint8(flags), Choosing(Full(), Sized(9))))
	}
	for _, n := range []int{16385, 16386, 16388, 32768, 65495, 65535, 65536, 65537, 1<<16 + 16384, 1 << 20} {
		out = append(out, api.Seg{Data: make([]byte, n)}, Choosing(Full(), Sized(n)))
	}
	return out
}

// AlikeSegs tells whether two segments are the same, by their fields: no lists are the same as empty ones.
func AlikeSegs(a, b api.Seg) bool {
	ends := a.Src == b.Src && a.Dst == b.Dst && a.Seq == b.Seq && a.Ack == b.Ack
	rest := a.Flags == b.Flags && a.Window == b.Window && a.Urgent == b.Urgent
	return ends && rest && alikeOpts(a.Opts, b.Opts) && bytes.Equal(a.Data, b.Data)
}

// alikeOpts tells whether two options are the same, by their fields.
func alikeOpts(a, b api.Opts) bool {
	syn := a.HasMSS == b.HasMSS && a.MSS == b.MSS && a.HasScale == b.HasScale && a.Scale == b.Scale && a.SackOK == b.SackOK
	times := a.HasTime == b.HasTime && a.Val == b.Val && a.Echo == b.Echo
	ao := a.HasAO == b.HasAO && a.KeyID == b.KeyID && a.NextID == b.NextID && a.MAC == b.MAC
	return syn && times && ao && slices.Equal(a.Sacks, b.Sacks)
}

// CopiedSeg is a segment whose lists are its own.
func CopiedSeg(s api.Seg) api.Seg {
	s.Data, s.Opts.Sacks = slices.Clone(s.Data), slices.Clone(s.Opts.Sacks)
	return s
}

// AnySeg is a segment by chance, that may be, with less than most bytes of data.
func AnySeg(chance func(m int) int, most int) api.Seg {
	short := func() uint16 { return uint16(chance(1 << 16)) }
	number := func() uint32 { return uint32(chance(1 << 32)) }
	o := Options()[chance(len(Options()))]
	if o.HasTime {
		o.Val, o.Echo = number(), number()
	}
	if o.HasAO {
		o.KeyID, o.NextID, o.MAC = uint8(chance(256)), uint8(chance(256)), [12]byte(Bytes(chance, 12))
	}
	return api.Seg{
		Src: short(), Dst: short(), Seq: number(), Ack: number(), Flags: uint8(chance(64)), Window: short(), Urgent: short(),
		Opts: o, Data: Bytes(chance, chance(most)),
	}
}

// SegBytes are by the words of layers 12 and 13 the bytes of a segment, with 0 where its check sum stands.
func SegBytes(s api.Seg) []byte {
	o := OptionBytes(s.Opts)
	b := slices.Concat(Big(2, uint32(s.Src), uint32(s.Dst)), Big(4, s.Seq, s.Ack), []byte{byte(16 * (5 + len(o)/4)), s.Flags}, Big(2, uint32(s.Window), 0, uint32(s.Urgent)))
	return slices.Concat(b, o, s.Data)
}

// DifferingSegs are segments that differ from another one in one field alone, each once.
func DifferingSegs(s api.Seg) []api.Seg {
	turns := []func(s *api.Seg){
		func(s *api.Seg) { s.Src ^= 1 }, func(s *api.Seg) { s.Src ^= 1 << 15 },
		func(s *api.Seg) { s.Dst ^= 1 }, func(s *api.Seg) { s.Dst ^= 1 << 15 },
		func(s *api.Seg) { s.Seq ^= 1 }, func(s *api.Seg) { s.Seq ^= 1 << 31 },
		func(s *api.Seg) { s.Ack ^= 1 }, func(s *api.Seg) { s.Ack ^= 1 << 31 },
		func(s *api.Seg) { s.Window ^= 1 }, func(s *api.Seg) { s.Window ^= 1 << 15 },
		func(s *api.Seg) { s.Urgent ^= 1 }, func(s *api.Seg) { s.Urgent ^= 1 << 15 },
		func(s *api.Seg) { s.Data = append(slices.Clone(s.Data), 0) },
		func(s *api.Seg) { s.Data = append([]byte{1}, s.Data...) },
	}
	for bit := range 8 {
		turns = append(turns, func(s *api.Seg) { s.Flags ^= 1 << bit })
	}
	for _, o := range Differing(s.Opts) {
		turns = append(turns, func(s *api.Seg) { s.Opts = o })
	}
	for i := range min(len(s.Data), 300) {
		turns = append(turns, func(s *api.Seg) { s.Data = slices.Clone(s.Data); s.Data[i] ^= 1 << (i % 8) })
	}
	if n := len(s.Data); n > 0 {
		turns = append(turns, func(s *api.Seg) { s.Data = s.Data[:n-1] }, func(s *api.Seg) { s.Data = s.Data[1:] }, func(s *api.Seg) { s.Data = nil })
		turns = append(turns, func(s *api.Seg) { s.Data = slices.Clone(s.Data); s.Data[n-1] ^= 128 })
	}
	var out []api.Seg
	for _, turn := range turns {
		out = append(out, With(s, turn))
	}
	return out
}
