package checks

import (
	"math"
	"slices"

	"downhaul/api"
)

// MAC is a MAC of twelve bytes, no two of which are alike.
func MAC() [12]byte { return [12]byte{0xA0, 1, 0xB2, 3, 0xC4, 5, 0xD6, 7, 0xE8, 9, 0xFA, 11} }

// Kinds give options one more each: all kinds but Sacks, in the order of their numbers.
func Kinds() []func(o *api.Opts) {
	return []func(o *api.Opts){
		func(o *api.Opts) { o.HasMSS, o.MSS = true, 1460 },
		func(o *api.Opts) { o.HasScale, o.Scale = true, 7 },
		func(o *api.Opts) { o.SackOK = true },
		func(o *api.Opts) { o.HasTime, o.Val, o.Echo = true, 0x01020304, 0xFFEEDDCC },
		func(o *api.Opts) { o.HasAO, o.KeyID, o.NextID, o.MAC = true, 61, 84, MAC() },
	}
}

// Runs give options n Sacks, no two of which have a number in common.
func Runs(n int) func(o *api.Opts) {
	return func(o *api.Opts) {
		o.Sacks = nil
		for i := range uint32(n) {
			o.Sacks = append(o.Sacks, api.Block{Left: 0x10203040 + i<<24, Right: 0xF0E0D0C0 - i<<16})
		}
	}
}

// Full is what has an option of each kind that fits beside the others: its bytes are 36, filled up.
func Full() api.Opts { return With(api.Opts{}, Kinds()...) }

// OptionBytes are the bytes of options by the words of layer 12, of any.
func OptionBytes(o api.Opts) []byte {
	var b []byte
	if o.HasMSS {
		b = append(append(b, 2, 4), Big(2, uint32(o.MSS))...)
	}
	if o.HasScale {
		b = append(b, 3, 3, o.Scale)
	}
	if o.SackOK {
		b = append(b, 4, 2)
	}
	if o.HasTime {
		b = append(append(b, 8, 10), Big(4, o.Val, o.Echo)...)
	}
	if len(o.Sacks) != 0 {
		b = append(b, 5, byte(2+8*len(o.Sacks)))
		for _, s := range o.Sacks {
			b = append(b, Big(4, s.Left, s.Right)...)
		}
	}
	if o.HasAO {
		b = append(b, 29, 16, o.KeyID, o.NextID)
		b = append(b, o.MAC[:]...)
	}
	for len(b)%4 != 0 {
		b = append(b, 0)
	}
	return b
}

// Strays tell something of what options do not have, each alone.
func Strays() []func(o *api.Opts) {
	out := []func(o *api.Opts){
		func(o *api.Opts) { o.HasMSS, o.MSS = false, 1 },
		func(o *api.Opts) { o.HasMSS, o.MSS = false, 1<<15 },
		func(o *api.Opts) { o.HasMSS, o.MSS = false, math.MaxUint16 },
		func(o *api.Opts) { o.HasScale, o.Scale = false, 1 },
		func(o *api.Opts) { o.HasScale, o.Scale = false, 14 },
		func(o *api.Opts) { o.HasTime, o.Val, o.Echo = false, 1, 0 },
		func(o *api.Opts) { o.HasTime, o.Val, o.Echo = false, 1<<31, 0 },
		func(o *api.Opts) { o.HasTime, o.Val, o.Echo = false, 0, 1 },
		func(o *api.Opts) { o.HasTime, o.Val, o.Echo = false, 0, 1<<31 },
		func(o *api.Opts) { o.HasTime, o.Val, o.Echo = false, 5, 5 },
		func(o *api.Opts) { o.HasAO, o.KeyID, o.NextID, o.MAC = false, 1, 0, [12]byte{} },
		func(o *api.Opts) { o.HasAO, o.KeyID, o.NextID, o.MAC = false, 255, 0, [12]byte{} },
		func(o *api.Opts) { o.HasAO, o.KeyID, o.NextID, o.MAC = false, 0, 1, [12]byte{} },
		func(o *api.Opts) { o.HasAO, o.KeyID, o.NextID, o.MAC = false, 0, 255, [12]byte{} },
		func(o *api.Opts) { o.HasAO, o.KeyID, o.NextID, o.MAC = false, 1, 1, MAC() },
	}
	for i := range 12 {
		for _, c := range []byte{1, 128} {
			out = append(out, func(o *api.Opts) {
				o.HasAO, o.KeyID, o.NextID, o.MAC = false, 0, 0, [12]byte{}
				o.MAC[i] = c
			})
		}
	}
	return out
}

// Differing are options that differ from others in one field alone, or in one of the Sacks, each once.
func Differing(o api.Opts) []api.Opts {
	turns := slices.Concat(otherFields(), otherRuns(len(o.Sacks)))
	if n := len(o.Sacks); n > 1 && o.Sacks[0] != o.Sacks[n-1] {
		turns = append(turns, func(o *api.Opts) {
			o.Sacks = slices.Clone(o.Sacks)
			o.Sacks[0], o.Sacks[n-1] = o.Sacks[n-1], o.Sacks[0]
		})
	}
	var out []api.Opts
	for _, turn := range turns {
		out = append(out, With(o, turn))
	}
	return out
}

// otherFields turn one field of options each, or add one of the Sacks.
func otherFields() []func(o *api.Opts) {
	turns := []func(o *api.Opts){
		func(o *api.Opts) { o.HasMSS = !o.HasMSS },
		func(o *api.Opts) { o.MSS ^= 1 },
		func(o *api.Opts) { o.MSS ^= 1 << 15 },
		func(o *api.Opts) { o.HasScale = !o.HasScale },
		func(o *api.Opts) { o.Scale ^= 1 },
		func(o *api.Opts) { o.Scale ^= 128 },
		func(o *api.Opts) { o.SackOK = !o.SackOK },
		func(o *api.Opts) { o.HasTime = !o.HasTime },
		func(o *api.Opts) { o.Val ^= 1 },
		func(o *api.Opts) { o.Val ^= 1 << 31 },
		func(o *api.Opts) { o.Echo ^= 1 },
		func(o *api.Opts) { o.Echo ^= 1 << 31 },
		func(o *api.Opts) { o.HasAO = !o.HasAO },
		func(o *api.Opts) { o.KeyID ^= 1 },
		func(o *api.Opts) { o.KeyID ^= 128 },
		func(o *api.Opts) { o.NextID ^= 1 },
		func(o *api.Opts) { o.NextID ^= 128 },
		func(o *api.Opts) { o.Sacks = append(slices.Clone(o.Sacks), api.Block{}) },
		func(o *api.Opts) { o.Sacks = append([]api.Block{{Left: 1, Right: 1}}, o.Sacks...) },
	}
	for i := range 12 {
		turns = append(turns, func(o *api.Opts) { o.MAC[i] ^= 1 }, func(o *api.Opts) { o.MAC[i] ^= 128 })
	}
	return turns
}

// otherRuns turn one number of n Sacks each, or leave some of them out.
func otherRuns(n int) []func(o *api.Opts) {
	var turns []func(o *api.Opts)
	for i := range n {
		for _, bit := range []uint32{1, 1 << 31} {
			turns = append(turns, func(o *api.Opts) { o.Sacks = slices.Clone(o.Sacks); o.Sacks[i].Left ^= bit })
			turns = append(turns, func(o *api.Opts) { o.Sacks = slices.Clone(o.Sacks); o.Sacks[i].Right ^= bit })
		}
	}
	if n > 0 {
		turns = append(turns, func(o *api.Opts) { o.Sacks = o.Sacks[:n-1] }, func(o *api.Opts) { o.Sacks = o.Sacks[1:] }, func(o *api.Opts) { o.Sacks = nil })
	}
	return turns
}

// SpoilRuns writes into Sacks, and behind them, as far as there is room.
func SpoilRuns(list []api.Block) {
	list = list[:cap(list)]
	for i := range list {
		list[i].Left ^= 0x55555555
		list[i].Right ^= 0x55555555
	}
}
