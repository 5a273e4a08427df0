package checks

// Filled is a block of one byte only.
func Filled(c byte) [16]byte {
	var b [16]byte
	for i := range b {
		b[i] = c
	}
	return b
}

// Flipped is a block with one bit turned; the bit 0 is the highest one.
func Flipped(b [16]byte, bit int) [16]byte {
	b[bit/8] ^= 0x80 >> (bit % 8)
	return b
}

// Edges are blocks of bytes 0, of bytes FF, of others, and those with one bit set, or one clear.
func Edges() [][16]byte {
	out := [][16]byte{Filled(0), Filled(0xFF), Filled(0x80), Filled(0x7F), Filled(1), Filled(0x63), Filled(0x52)}
	for bit := range 128 {
		out = append(out, Flipped(Filled(0), bit), Flipped(Filled(0xFF), bit))
	}
	return out
}

// Block is a block by chance.
func Block(chance func(m int) int) [16]byte { return [16]byte(Bytes(chance, 16)) }
