package aes

import (
	stdaes "crypto/aes"
	"encoding/hex"
	"math"
	"math/bits"
	"math/rand"
	"testing"

	"downhaul/checks"
)

// block is a block of 32 hex digits.
func block(t *testing.T, text string) [16]byte {
	t.Helper()
	b, err := hex.DecodeString(text)
	if err != nil || len(b) != 16 {
		t.Fatal(text, err)
	}
	return [16]byte(b)
}

// times are two bytes multiplied, as polynomials over bits, and what is left of that when it is divided.
func times(a, b byte) byte {
	product := 0
	for i := range 8 {
		if b>>i&1 == 1 {
			product ^= int(a) << i
		}
	}
	for i := 14; i >= 8; i-- {
		if product>>i&1 == 1 {
			product ^= 0x11B << (i - 8)
		}
	}
	return byte(product)
}

// box is the box by the chapter's words.
func box(c byte) byte {
	one := byte(0)
	for n := range 256 {
		if times(c, byte(n)) == 1 {
			one = byte(n)
		}
	}
	out := one ^ 0x63
	for n := 1; n <= 4; n++ {
		out ^= bits.RotateLeft8(one, n)
	}
	return out
}

// boxed are the boxes of all bytes, by the chapter's words.
func boxed() [256]byte {
	var out [256]byte
	for c := range out {
		out[c] = box(byte(c))
	}
	return out
}

// numbers are the round keys by the chapter's words: 44 numbers of 4 bytes.
func numbers(boxes [256]byte, key [16]byte) [44][4]byte {
	var w [44][4]byte
	by := byte(1)
	for n := range w {
		if n < 4 {
			w[n] = [4]byte(key[4*n:])
			continue
		}
		ahead := w[n-1]
		if n%4 == 0 {
			ahead = [4]byte{boxes[ahead[1]] ^ by, boxes[ahead[2]], boxes[ahead[3]], boxes[ahead[0]]}
			by = times(by, 2)
		}
		for i := range 4 {
			w[n][i] = w[n-4][i] ^ ahead[i]
		}
	}
	return w
}

// round is a round key out of 44 numbers.
func round(w [44][4]byte, n int) [16]byte {
	var out [16]byte
	for i := range out {
		out[i] = w[4*n+i/4][i%4]
	}
	return out
}

// spelt is the block that is encrypted by the chapter's words; it is held against another AES.
func spelt(t *testing.T, boxes [256]byte, key, b [16]byte) [16]byte {
	t.Helper()
	w := numbers(boxes, key)
	var s [4][4]byte // by column, and row
	for c := range 4 {
		for r := range 4 {
			s[c][r] = b[4*c+r] ^ w[c][r]
		}
	}
	for n := 1; n <= 10; n++ {
		was := s
		for c := range 4 {
			for r := range 4 {
				s[c][r] = boxes[was[(c+r)%4][r]]
			}
		}
		was = s
		for c := range 4 {
			for r := range 4 {
				if n < 10 {
					s[c][r] = times(2, was[c][r]) ^ times(3, was[c][(r+1)%4]) ^ was[c][(r+2)%4] ^ was[c][(r+3)%4]
				}
				s[c][r] ^= w[4*n+c][r]
			}
		}
	}
	var out [16]byte
	for i := range out {
		out[i] = s[i/4][i%4]
	}
	if second := other(t, key, b); second != out {
		t.Fatalf("the test's own two differ: key %x, block %x: %x, and %x", key, b, out, second)
	}
	return out
}

// other is the block that is encrypted by another AES.
func other(t *testing.T, key, b [16]byte) [16]byte {
	t.Helper()
	c, err := stdaes.NewCipher(key[:])
	if err != nil {
		t.Fatal(err)
	}
	var out [16]byte
	c.Encrypt(out[:], b[:])
	return out
}

// P6.1: the chapter's example.
func TestExample(t *testing.T) {
	k := New(block(t, "000102030405060708090a0b0c0d0e0f"))
	if got := k.Encrypt(block(t, "00112233445566778899aabbccddeeff")); got != block(t, "69c4e0d86a7b0430d8cdb78070b4c55a") {
		t.Errorf("%x", got)
	}
}

// P6.1: known blocks, of FIPS 197, SP 800-38A, RFC 4493 and AESAVS.
func TestKnown(t *testing.T) {
	const key = "2b7e151628aed2a6abf7158809cf4f3c"
	const none = "00000000000000000000000000000000"
	const all = "ffffffffffffffffffffffffffffffff"
	for _, c := range []struct{ key, block, want string }{
		{key, "3243f6a8885a308d313198a2e0370734", "3925841d02dc09fbdc118597196a0b32"},
		{key, "6bc1bee22e409f96e93d7e117393172a", "3ad77bb40d7a3660a89ecaf32466ef97"},
		{key, "ae2d8a571e03ac9c9eb76fac45af8e51", "f5d3d58503b9699de785895a96fdbaaf"},
		{key, "30c81c46a35ce411e5fbc1191a0a52ef", "43b1cd7f598ece23881b00e3ed030688"},
		{key, "f69f2445df4f9b17ad2b417be66c3710", "7b0c785e27e8ad3f8223207104725dd4"},
		{key, none, "7df76b0c1ab899b33e42f047b91b546f"},
		{none, none, "66e94bd4ef8a2c3b884cfa59ca342b2e"},
		{none, all, "3f5b8cc9ea855a0afa7347d23e8d664e"},
		{none, "80000000000000000000000000000000", "3ad78e726c1ec02b7ebfe92b23d9ec34"},
		{"80000000000000000000000000000000", none, "0edd33d3c621e546455bd8ba1418bec8"},
		{all, none, "a1f6258c877d5fcd8964484538bfc92c"},
		{all, all, "bcbf217cb280cf30b2517052193ab979"},
		{"10a58869d74be5a374cf867cfb473859", none, "6d251e6944b051e04eaa6fb4dbf78465"},
		{none, "f34481ec3cc627bacd5dc3fb08f273e6", "0336763e966d92595a567cc9ce537f5e"},
	} {
		if got := New(block(t, c.key)).Encrypt(block(t, c.block)); got != block(t, c.want) {
			t.Errorf("key %s, block %s: %x, not %s", c.key, c.block, got, c.want)
		}
	}
}

// P6.1: the box of every byte, 0 too; and some that are known.
func TestBox(t *testing.T) {
	for c := range 256 {
		if got, want := Box(byte(c)), box(byte(c)); got != want {
			t.Errorf("Box(%02x) = %02x, not %02x", c, got, want)
		}
	}
	for _, c := range [][2]byte{{0, 0x63}, {1, 0x7C}, {0x52, 0}, {0x53, 0xED}, {0x7F, 0xD2}, {0x80, 0xCD}, {0x9A, 0xB8}, {0xFF, 0x16}} {
		if got := Box(c[0]); got != c[1] {
			t.Errorf("Box(%02x) = %02x, not %02x", c[0], got, c[1])
		}
	}
}

// P6.3: no two bytes have one box.
func TestBoxesDiffer(t *testing.T) {
	seen := map[byte]int{}
	for c := range 256 {
		got := Box(byte(c))
		if first, there := seen[got]; there {
			t.Errorf("%02x and %02x have the box %02x", first, c, got)
		}
		seen[got] = c
	}
}

// P6.1: each byte multiplied with 2, below 80 and from there on; and some that are known.
func TestDouble(t *testing.T) {
	for c := range 256 {
		want := byte(2 * c)
		if c >= 0x80 {
			want ^= 0x1B
		}
		if got := Double(byte(c)); got != want || got != times(byte(c), 2) || got != times(2, byte(c)) {
			t.Errorf("Double(%02x) = %02x, not %02x", c, got, want)
		}
	}
	for _, c := range [][2]byte{{0, 0}, {1, 2}, {0x57, 0xAE}, {0xAE, 0x47}, {0x47, 0x8E}, {0x8E, 7}, {0x7F, 0xFE}, {0x80, 0x1B}, {0x81, 0x19}, {0xFF, 0xE5}} {
		if got := Double(c[0]); got != c[1] {
			t.Errorf("Double(%02x) = %02x, not %02x", c[0], got, c[1])
		}
	}
}

// P6.1: all eleven round keys of known keys: that of FIPS 197, and those of bytes 0 and of bytes FF.
func TestKnownRounds(t *testing.T) {
	for key, want := range map[string][11]string{
		"2b7e151628aed2a6abf7158809cf4f3c": {
			"2b7e151628aed2a6abf7158809cf4f3c", "a0fafe1788542cb123a339392a6c7605", "f2c295f27a96b9435935807a7359f67f", "3d80477d4716fe3e1e237e446d7a883b",
			"ef44a541a8525b7fb671253bdb0bad00", "d4d1c6f87c839d87caf2b8bc11f915bc", "6d88a37a110b3efddbf98641ca0093fd", "4e54f70e5f5fc9f384a64fb24ea6dc4f",
			"ead27321b58dbad2312bf5607f8d292f", "ac7766f319fadc2128d12941575c006e", "d014f9a8c9ee2589e13f0cc8b6630ca6",
		},
		"00000000000000000000000000000000": {
			"00000000000000000000000000000000", "62636363626363636263636362636363", "9b9898c9f9fbfbaa9b9898c9f9fbfbaa", "90973450696ccffaf2f457330b0fac99",
			"ee06da7b876a1581759e42b27e91ee2b", "7f2e2b88f8443e098dda7cbbf34b9290", "ec614b851425758c99ff09376ab49ba7", "217517873550620bacaf6b3cc61bf09b",
			"0ef903333ba9613897060a04511dfa9f", "b1d4d8e28a7db9da1d7bb3de4c664941", "b4ef5bcb3e92e21123e951cf6f8f188e",
		},
		"ffffffffffffffffffffffffffffffff": {
			"ffffffffffffffffffffffffffffffff", "e8e9e9e917161616e8e9e9e917161616", "adaeae19bab8b80f525151e6454747f0", "090e2277b3b69a78e1e7cb9ea4a08c6e",
			"e16abd3e52dc2746b33becd8179b60b6", "e5baf3ceb766d488045d385013c658e6", "71d07db3c6b6a93bc2eb916bd12dc98d", "e90d208d2fbb89b6ed5018dd3c7dd150",
			"96337366b988fad054d8e20d68a5335d", "8bf03f233278c5f366a027fe0e0514a3", "d60a3588e472f07b82d2d7858cd7c326",
		},
	} {
		k := New(block(t, key))
		for n, text := range want {
			if got := k.Round(n); got != block(t, text) {
				t.Errorf("key %s, round %d: %x, not %s", key, n, got, text)
			}
		}
	}
}

// P6.1: all eleven round keys of other keys, held against the 44 numbers; the first one is the key.
func TestRounds(t *testing.T) {
	chance, boxes := rand.New(rand.NewSource(6)), boxed()
	keys := checks.Edges()
	for range 500 {
		keys = append(keys, checks.Block(chance.Intn))
	}
	for _, key := range keys {
		k, w := New(key), numbers(boxes, key)
		if k.Round(0) != key {
			t.Errorf("key %x, round 0: %x", key, k.Round(0))
		}
		for n := range 11 {
			if got, want := k.Round(n), round(w, n); got != want {
				t.Fatalf("key %x, round %d: %x, not %x", key, n, got, want)
			}
		}
	}
}

// P6.1: a wrong round key is sixteen bytes 0, whatever the key, and however far away it is.
func TestWrongRounds(t *testing.T) {
	wrong := []int{-1, -2, -10, -11, -16, 11, 12, 15, 16, 43, 44, 255, 256, 257, -256, -255, 1 << 16, 1<<31 - 1, -1 << 31, math.MinInt, math.MinInt + 1, math.MaxInt, math.MaxInt - 1}
	for n := 12; n < 300; n++ {
		wrong = append(wrong, n, -n)
	}
	for shift := range 63 {
		wrong = append(wrong, math.MinInt>>shift, math.MinInt>>shift-1, math.MaxInt>>shift+11)
	}
	for _, k := range []Key{{}, New(checks.Filled(0)), New(checks.Filled(0xFF)), New(block(t, "000102030405060708090a0b0c0d0e0f"))} {
		for _, n := range wrong {
			if got := k.Round(n); got != [16]byte{} {
				t.Fatalf("round %d: %x", n, got)
			}
		}
	}
}

// P6.1: the zero Key is that of sixteen bytes 0, in every way to have one.
func TestZeroKey(t *testing.T) {
	chance, boxes := rand.New(rand.NewSource(61)), boxed()
	var zero Key
	blocks := append(checks.Edges(), checks.Block(chance.Intn), checks.Block(chance.Intn), checks.Block(chance.Intn))
	w := numbers(boxes, checks.Filled(0))
	for way, k := range []Key{zero, {}, New([16]byte{}), *new(Key), [3]Key{}[1], struct{ Key }{}.Key, map[int]Key{}[1]} {
		for n := range 11 {
			if got, want := k.Round(n), round(w, n); got != want {
				t.Errorf("way %d, round %d: %x, not %x", way, n, got, want)
			}
		}
		for _, b := range blocks {
			if got, want := k.Encrypt(b), spelt(t, boxes, checks.Filled(0), b); got != want {
				t.Errorf("way %d, block %x: %x, not %x", way, b, got, want)
			}
		}
	}
	if New(checks.Flipped(checks.Filled(0), 127)).Encrypt(checks.Filled(0)) == zero.Encrypt(checks.Filled(0)) {
		t.Error("another key is the zero one")
	}
}

// P6.1: keys and blocks of bytes 0, of bytes FF, and with one bit set or clear, held against two other reckonings.
func TestEdges(t *testing.T) {
	boxes := boxed()
	for _, key := range checks.Edges() {
		k := New(key)
		for _, b := range checks.Edges() {
			if got, want := k.Encrypt(b), other(t, key, b); got != want {
				t.Fatalf("key %x, block %x: %x, not %x", key, b, got, want)
			}
		}
		if got, want := k.Encrypt(key), spelt(t, boxes, key, key); got != want {
			t.Fatalf("key %x, by itself: %x, not %x", key, got, want)
		}
	}
}

// P6.1: keys and blocks by chance, held against two other reckonings.
func TestByChance(t *testing.T) {
	chance, boxes := rand.New(rand.NewSource(62)), boxed()
	for range 3000 {
		key, b := checks.Block(chance.Intn), checks.Block(chance.Intn)
		if got, want := New(key).Encrypt(b), spelt(t, boxes, key, b); got != want {
			t.Fatalf("key %x, block %x: %x, not %x", key, b, got, want)
		}
	}
}

// P6.1: what is encrypted is encrypted again, by itself as a key, many times over (as AESAVS does it).
func TestOverAndOver(t *testing.T) {
	var key, b [16]byte
	for n := range 200 {
		k := New(key)
		var ahead, want [16]byte
		for range 100 {
			want = other(t, key, b)
			ahead, b = b, k.Encrypt(b)
			if b != want {
				t.Fatalf("key %d, %x, block %x: %x, not %x", n, key, ahead, b, want)
			}
		}
		for i := range key {
			key[i] ^= b[i]
		}
	}
}

// P6.2: blocks that differ in one bit are encrypted to others; no two of many have one; and another AES leads each one back.
func TestBlocksDiffer(t *testing.T) {
	chance := rand.New(rand.NewSource(63))
	for _, key := range [][16]byte{checks.Filled(0), checks.Filled(0xFF), checks.Block(chance.Intn), checks.Block(chance.Intn)} {
		k := New(key)
		back, err := stdaes.NewCipher(key[:])
		if err != nil {
			t.Fatal(err)
		}
		of := map[[16]byte][16]byte{} // which block is encrypted to one
		meet := func(b [16]byte) {
			got := k.Encrypt(b)
			if first, there := of[got]; there && first != b {
				t.Fatalf("key %x: %x and %x are both encrypted to %x", key, first, b, got)
			}
			of[got] = b
			var first [16]byte
			if back.Decrypt(first[:], got[:]); first != b {
				t.Fatalf("key %x: %x is encrypted to %x, which is that of %x", key, b, got, first)
			}
		}
		for _, b := range append(checks.Edges(), checks.Block(chance.Intn), checks.Block(chance.Intn), checks.Block(chance.Intn)) {
			meet(b)
			for bit := range 128 {
				meet(checks.Flipped(b, bit))
			}
		}
		for range 5000 {
			meet(checks.Block(chance.Intn))
		}
	}
}

// P6.1: the same block by other keys, each one bit off: each bit of a key counts.
func TestKeysDiffer(t *testing.T) {
	chance := rand.New(rand.NewSource(64))
	for _, key := range [][16]byte{checks.Filled(0), checks.Filled(0xFF), checks.Block(chance.Intn), checks.Block(chance.Intn)} {
		for _, b := range [][16]byte{checks.Filled(0), checks.Filled(0xFF), key, checks.Block(chance.Intn)} {
			seen := map[[16]byte]int{New(key).Encrypt(b): -1}
			for bit := range 128 {
				got := New(checks.Flipped(key, bit)).Encrypt(b)
				if first, there := seen[got]; there {
					t.Fatalf("key %x, block %x: bits %d and %d of the key make one block", key, b, first, bit)
				}
				if want := other(t, checks.Flipped(key, bit), b); got != want {
					t.Fatalf("key %x, block %x: %x, not %x", checks.Flipped(key, bit), b, got, want)
				}
				seen[got] = bit
			}
		}
	}
}

// R3: keys that are used again, and copied, in any order, answer the same.
func TestUsedAgain(t *testing.T) {
	chance, boxes := rand.New(rand.NewSource(65)), boxed()
	own := [][16]byte{checks.Filled(0), checks.Filled(0), checks.Filled(0xFF)}
	keys := []Key{{}, New(own[1]), New(own[2])}
	for range 10 {
		own = append(own, checks.Block(chance.Intn))
		keys = append(keys, New(own[len(own)-1]))
	}
	blocks := [][16]byte{checks.Filled(0), checks.Filled(0xFF), checks.Block(chance.Intn), checks.Block(chance.Intn)}
	for range 3000 {
		at, b := chance.Intn(len(keys)), blocks[chance.Intn(len(blocks))]
		switch chance.Intn(4) {
		case 0:
			n := chance.Intn(15) - 2
			want := [16]byte{}
			if n >= 0 && n <= 10 {
				want = round(numbers(boxes, own[at]), n)
			}
			if got := keys[at].Round(n); got != want {
				t.Fatalf("key %x, round %d: %x, not %x", own[at], n, got, want)
			}
		case 1:
			keys, own = append(keys, keys[at]), append(own, own[at])
		default:
			if got, want := keys[at].Encrypt(b), other(t, own[at], b); got != want {
				t.Fatalf("key %x, block %x: %x, not %x", own[at], b, got, want)
			}
		}
	}
}

// R4: an array that is turned after it was handed in, or that was answered, turns nothing else.
func TestArraysAreNotKept(t *testing.T) {
	chance := rand.New(rand.NewSource(66))
	for range 200 {
		key, b := checks.Block(chance.Intn), checks.Block(chance.Intn)
		wasKey, was := key, b
		k := New(key)
		key = checks.Filled(0)
		first := k.Encrypt(b)
		if b != was {
			t.Fatalf("block %x was turned into %x", was, b)
		}
		want := other(t, wasKey, was)
		if first != want {
			t.Fatalf("key %x, turned behind New: %x, not %x", wasKey, first, want)
		}
		first[chance.Intn(16)]++
		for n := range 11 {
			one := k.Round(n)
			again := one
			one[chance.Intn(16)]++
			if k.Round(n) != again {
				t.Fatalf("key %x: round %d was turned from without", wasKey, n)
			}
		}
		if got := k.Encrypt(was); got != want {
			t.Fatalf("key %x, used again: %x, not %x", wasKey, got, want)
		}
		if got, want := New(key).Encrypt(was), other(t, key, was); got != want {
			t.Fatalf("key %x: %x, not %x", key, got, want)
		}
	}
}
