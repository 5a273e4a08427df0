package cmac

import (
	"bytes"
	stdaes "crypto/aes"
	"crypto/cipher"
	"encoding/hex"
	"math/big"
	"math/rand"
	"slices"
	"strings"
	"testing"

	"downhaul/checks"
)

// lengths are those of bytes at the edges of blocks, and far beyond them.
func lengths() []int {
	return []int{0, 1, 2, 7, 8, 14, 15, 16, 17, 18, 30, 31, 32, 33, 34, 47, 48, 49, 63, 64, 65, 100, 127, 128, 129, 255, 256, 257, 1000, 1600, 4095, 4096, 4097}
}

// block is a block of 32 hex digits.
func block(text string) [16]byte { return [16]byte(checks.Unhex(text)) }

// other is another AES.
func other(t *testing.T, key [16]byte) cipher.Block {
	t.Helper()
	c, err := stdaes.NewCipher(key[:])
	if err != nil {
		t.Fatal(err)
	}
	return c
}

// number is a block as one number, the highest byte first.
func number(b [16]byte) *big.Int { return new(big.Int).SetBytes(b[:]) }

// doubled is a block doubled, reckoned as one number.
func doubled(b [16]byte) [16]byte {
	n := number(b)
	highest := n.Bit(127)
	n.Lsh(n, 1).SetBit(n, 128, 0)
	if highest == 1 {
		n.Xor(n, big.NewInt(0x87))
	}
	return [16]byte(n.FillBytes(make([]byte, 16)))
}

// halved is the block that is doubled to one, as the lowest bit tells: 87 is odd.
func halved(b [16]byte) [16]byte {
	n := number(b)
	if n.Bit(0) == 1 {
		n.Xor(n, big.NewInt(0x87)).SetBit(n, 128, 1)
	}
	return [16]byte(n.Rsh(n, 1).FillBytes(make([]byte, 16)))
}

// blocks are a key's two blocks by the chapter's words, with another AES.
func blocks(t *testing.T, key [16]byte) ([16]byte, [16]byte) {
	t.Helper()
	var b [16]byte
	other(t, key).Encrypt(b[:], b[:])
	return doubled(b), doubled(doubled(b))
}

// turned is a block turned by another one.
func turned(b, by [16]byte) [16]byte {
	for i := range b {
		b[i] ^= by[i]
	}
	return b
}

// filled are bytes that are no whole block, or none, with a byte 80 and bytes 0 behind.
func filled(text []byte) []byte {
	return slices.Concat(text, []byte{0x80}, make([]byte, 15-len(text)%16))
}

// mac is the MAC by the chapter's words, with another AES; it is held against chained blocks of the library.
func mac(t *testing.T, key [16]byte, text []byte) [16]byte {
	t.Helper()
	by, second := blocks(t, key)
	if len(text) == 0 || len(text)%16 != 0 {
		text, by = filled(text), second
	}
	aes := other(t, key)
	var now [16]byte
	for at := 0; at < len(text); at += 16 {
		now = turned(now, [16]byte(text[at:]))
		if at == len(text)-16 {
			now = turned(now, by)
		}
		aes.Encrypt(now[:], now[:])
	}
	chained := slices.Clone(text)
	for i, c := range by {
		chained[len(text)-16+i] ^= c
	}
	cipher.NewCBCEncrypter(aes, make([]byte, 16)).CryptBlocks(chained, chained)
	if !bytes.Equal(chained[len(text)-16:], now[:]) {
		t.Fatalf("the test's own two differ: key %x, bytes %x", key, text)
	}
	return now
}

// hold holds both MACs of some parts against one that is known.
func hold(t *testing.T, want, key [16]byte, parts ...[]byte) {
	t.Helper()
	if got := Of(key, parts...); got != want {
		t.Fatalf("Of(%x, %x) = %x, not %x", key, parts, got, want)
	}
	if got := Short(key, parts...); got != [12]byte(want[:12]) {
		t.Fatalf("Short(%x, %x) = %x, not %x", key, parts, got, want[:12])
	}
}

// P7.1: the chapter's example.
func TestExample(t *testing.T) {
	key := block("2b7e151628aed2a6abf7158809cf4f3c")
	if got := Of(key); got != block("bb1d6929e95937287fa37d129b756746") {
		t.Errorf("%x", got)
	}
	if got := Short(key); hex.EncodeToString(got[:]) != "bb1d6929e95937287fa37d12" {
		t.Errorf("%x", got)
	}
}

// P7.1: known MACs: of RFC 4493, SP 800-38B and RFC 4615, and those that OpenSSL reckons.
func TestKnown(t *testing.T) {
	const key = "2b7e151628aed2a6abf7158809cf4f3c"
	const text = "6bc1bee22e409f96e93d7e117393172aae2d8a571e03ac9c9eb76fac45af8e5130c81c46a35ce411e5fbc1191a0a52eff69f2445df4f9b17ad2b417be66c3710"
	const none, all = "00000000000000000000000000000000", "ffffffffffffffffffffffffffffffff"
	const rising = "000102030405060708090a0b0c0d0e0f"
	for _, c := range []struct{ key, text, want string }{
		{key, "", "bb1d6929e95937287fa37d129b756746"},
		{key, text[:32], "070a16b46b4d4144f79bdd9dd04a287c"},
		{key, text[:40], "7d85449ea6ea19c823a7bf78837dfade"},
		{key, text[:80], "dfa66747de9ae63030ca32611497c827"},
		{key, text, "51f0bebf7e3b9d92fc49741779363cfe"},
		{rising, rising + "10111213", "980ae87b5f4c9c5214f5b6a8455e4c2d"},
		{none, rising + "edcb", "8de65c60b08b27cae6ef897b3df37517"},
		{none, rising[:20], "c4369b5ec97deb121bae920b1770b8f3"},
		{"8de65c60b08b27cae6ef897b3df37517", rising + "10111213", "84a348a4a45d235babfffc0d2b4da09a"},
		{"c4369b5ec97deb121bae920b1770b8f3", rising + "10111213", "290d9e112edb09ee141fcf64c0b72f3d"},
		{none, "", "4387c14b46ef7e176dceefa862d72ff9"},
		{none, "00", "1d2d332e1babaaffd44de976a336c172"},
		{none, "80", "79d58408b382a962a96c222ccc9cb237"},
		{none, "ff", "80cccdfa336cb1e8f6d1e540cc14aa89"},
		{none, none, "763cbcde81df9131bf897712c088edad"},
		{none, all, "5313d2425287729d35a474ada6c6035f"},
		{none, none + "00", "d4c3755646281536cc5905554e445161"},
		{all, "", "4e477aeef8447036818b82567f5b8eb4"},
		{all, "00", "c8fc22b717f9089b4884cca4337f2f49"},
		{all, none, "b290fa2ea7b6b52eb124134522a6e540"},
		{all, all, "f375c39e45b5a9f1f5e104a04ce7e1e6"},
		{all, none + "00", "787ec516d75253ce65936c92dc806afe"},
	} {
		hold(t, block(c.want), block(c.key), checks.Unhex(c.text))
	}
}

// P7.1: known blocks doubled: those whose highest bit is 0, and those whose highest bit is 1.
func TestKnownDoubles(t *testing.T) {
	for _, c := range []struct{ b, want string }{
		{"00000000000000000000000000000000", "00000000000000000000000000000000"},
		{"00000000000000000000000000000001", "00000000000000000000000000000002"},
		{"00000000000000000000000000000080", "00000000000000000000000000000100"},
		{"00000000000000008000000000000000", "00000000000000010000000000000000"},
		{"0000000000000000000000000000007f", "000000000000000000000000000000fe"},
		{"40000000000000000000000000000000", "80000000000000000000000000000000"},
		{"7fffffffffffffffffffffffffffffff", "fffffffffffffffffffffffffffffffe"},
		{"80000000000000000000000000000000", "00000000000000000000000000000087"},
		{"80000000000000000000000000000001", "00000000000000000000000000000085"},
		{"c0000000000000000000000000000000", "80000000000000000000000000000087"},
		{"ffffffffffffffffffffffffffffffff", "ffffffffffffffffffffffffffffff79"},
		{"7df76b0c1ab899b33e42f047b91b546f", "fbeed618357133667c85e08f7236a8de"},
		{"fbeed618357133667c85e08f7236a8de", "f7ddac306ae266ccf90bc11ee46d513b"},
	} {
		if got := Double(block(c.b)); got != block(c.want) {
			t.Errorf("Double(%s) = %x, not %s", c.b, got, c.want)
		}
	}
}

// P7.1: blocks of bytes 0, of bytes FF, with one bit set or clear, and by chance, doubled over and over.
func TestDouble(t *testing.T) {
	chance := rand.New(rand.NewSource(7))
	all := checks.Edges()
	for range 2000 {
		all = append(all, checks.Block(chance.Intn))
	}
	for _, b := range all {
		for range 20 {
			got, want := Double(b), doubled(b)
			if got != want {
				t.Fatalf("Double(%x) = %x, not %x", b, got, want)
			}
			b = got
		}
	}
}

// P7.4: each doubled block leads back to the one that was doubled; no two of many are doubled to one.
func TestDoublesDiffer(t *testing.T) {
	chance := rand.New(rand.NewSource(71))
	of := map[[16]byte][16]byte{} // which block is doubled to one
	meet := func(b [16]byte) {
		got := Double(b)
		if first, there := of[got]; there && first != b {
			t.Fatalf("%x and %x are both doubled to %x", first, b, got)
		}
		of[got] = b
		if back := halved(got); back != b {
			t.Fatalf("%x is doubled to %x, which is that of %x", b, got, back)
		}
	}
	for n := range 1 << 16 { // all first and last bytes: what goes out of the one turns the other
		b := checks.Filled(0)
		b[0], b[15] = byte(n>>8), byte(n)
		meet(b)
	}
	for _, b := range append(checks.Edges(), checks.Block(chance.Intn), checks.Block(chance.Intn)) {
		meet(b)
		for bit := range 128 {
			meet(checks.Flipped(b, bit))
		}
	}
	for range 5000 {
		meet(checks.Block(chance.Intn))
	}
}

// P7.1: known keys' two blocks: that of RFC 4493, and that of bytes 0.
func TestKnownBlocks(t *testing.T) {
	for _, c := range []struct{ key, first, second string }{
		{"2b7e151628aed2a6abf7158809cf4f3c", "fbeed618357133667c85e08f7236a8de", "f7ddac306ae266ccf90bc11ee46d513b"},
		{"00000000000000000000000000000000", "cdd297a9df1458771099f4b39468565c", "9ba52f53be28b0ee2133e96728d0ac3f"},
	} {
		first, second := Blocks(block(c.key))
		if first != block(c.first) || second != block(c.second) {
			t.Errorf("Blocks(%s) = %x, %x, not %s, %s", c.key, first, second, c.first, c.second)
		}
	}
}

// P7.1: keys' two blocks, with either highest bit of what is doubled first, and of what is doubled next.
func TestBlocks(t *testing.T) {
	chance := rand.New(rand.NewSource(72))
	keys := checks.Edges()
	for range 1000 {
		keys = append(keys, checks.Block(chance.Intn))
	}
	var met [2][2]int
	for _, key := range keys {
		first, second := Blocks(key)
		if wantFirst, wantSecond := blocks(t, key); first != wantFirst || second != wantSecond {
			t.Fatalf("Blocks(%x) = %x, %x, not %x, %x", key, first, second, wantFirst, wantSecond)
		}
		if Double(first) != second {
			t.Fatalf("Blocks(%x) = %x, %x, which is not that doubled", key, first, second)
		}
		met[halved(first)[0]>>7][first[0]>>7]++
	}
	for n, row := range met {
		for m, times := range row {
			if times < 50 {
				t.Errorf("only %d keys with the highest bits %d, %d", times, n, m)
			}
		}
	}
}

// P7.1: bytes of each length, held against two other reckonings, whole and short.
func TestEachLength(t *testing.T) {
	chance := rand.New(rand.NewSource(73))
	for n := range 150 {
		for _, text := range [][]byte{checks.Bytes(chance.Intn, n), make([]byte, n), bytes.Repeat([]byte{0xFF}, n)} {
			for _, key := range [][16]byte{checks.Filled(0), checks.Filled(0xFF), checks.Block(chance.Intn), checks.Block(chance.Intn)} {
				hold(t, mac(t, key, text), key, text)
			}
		}
	}
	for _, n := range append(lengths(), 1<<16-1, 1<<16, 1<<16+1) {
		key, text := checks.Block(chance.Intn), checks.Bytes(chance.Intn, n)
		hold(t, mac(t, key, text), key, text)
	}
}

// P7.1: keys of bytes 0, of bytes FF, and with one bit set or clear.
func TestKeys(t *testing.T) {
	for _, key := range checks.Edges() {
		for _, n := range []int{0, 1, 15, 16, 17, 31, 32, 33} {
			hold(t, mac(t, key, checks.Rising(n)), key, checks.Rising(n))
		}
		hold(t, mac(t, key, key[:]), key, key[:])
	}
}

// P7.1: no bytes, no parts, in every way to have none.
func TestNothing(t *testing.T) {
	chance := rand.New(rand.NewSource(74))
	lists := [][][]byte{nil, {}, {nil}, {{}}, {nil, {}, nil}, {[]byte("abc")[3:], make([]byte, 0, 16)}}
	for _, key := range [][16]byte{{}, checks.Filled(0xFF), checks.Block(chance.Intn), checks.Block(chance.Intn)} {
		want := mac(t, key, nil)
		if Of(key) != want || Short(key) != [12]byte(want[:12]) {
			t.Errorf("key %x, without parts: %x, not %x", key, Of(key), want)
		}
		for _, parts := range lists {
			hold(t, want, key, parts...)
		}
		if first, second := Of(key, make([]byte, 16)), Of(key, []byte{0}); first == want || second == want {
			t.Errorf("key %x: bytes 0 count as none", key)
		}
	}
}

// P7.1: each bit of the key and of the bytes counts.
func TestEachBit(t *testing.T) {
	for _, n := range []int{1, 15, 16, 17, 32, 33, 48} {
		text := checks.Rising(n)
		seen := map[[16]byte]int{Of(checks.Filled(0), text): -1}
		for bit := range 128 {
			got := Of(checks.Flipped(checks.Filled(0), bit), text)
			if first, there := seen[got]; there {
				t.Fatalf("%d bytes: bits %d and %d of the key have one MAC", n, first, bit)
			}
			seen[got] = bit
		}
		clear(seen)
		for bit := range 8 * n {
			text := make([]byte, n)
			text[bit/8] = 1 << (bit % 8)
			got := Of(checks.Filled(9), text[:n/2], text[n/2:])
			if first, there := seen[got]; there {
				t.Fatalf("%d bytes: bits %d and %d of them have one MAC", n, first, bit)
			}
			seen[got] = bit
		}
	}
}

// P7.1: how many bytes there are counts: the same bytes, more of them each time, and bytes 0, or 80, behind.
func TestLengthsDiffer(t *testing.T) {
	for _, c := range []byte{0, 0x80, 0xFF} {
		seen := map[[16]byte]int{}
		for n := range 200 {
			got := Of(checks.Filled(7), bytes.Repeat([]byte{c}, n))
			if first, there := seen[got]; there {
				t.Fatalf("%d and %d bytes %02x have one MAC", first, n, c)
			}
			seen[got] = n
		}
	}
}

// P7.2: cut in two at every place, within a block and between two, and one by one, with empty parts.
func TestCutInTwo(t *testing.T) {
	chance := rand.New(rand.NewSource(75))
	for _, n := range []int{1, 2, 15, 16, 17, 31, 32, 33, 48, 49, 64, 80, 100} {
		key, b := checks.Block(chance.Intn), checks.Bytes(chance.Intn, n)
		want := mac(t, key, b)
		for at := range n + 1 {
			hold(t, want, key, b[:at], b[at:])
			hold(t, want, key, b[:at], nil, b[at:])
			hold(t, want, key, nil, b[:at], []byte{}, b[at:], nil)
			hold(t, want, key, b[:at/2], b[at/2:at], []byte{}, b[at:], []byte{})
		}
		hold(t, want, key, checks.Single(b)...)
		hold(t, want, key, append(checks.Single(b), nil)...)
		hold(t, want, key, append(checks.Single(b), []byte{})...)
	}
}

// P7.2: cut in three at every two places.
func TestCutInThree(t *testing.T) {
	chance := rand.New(rand.NewSource(76))
	for _, n := range []int{16, 32, 35} {
		key, b := checks.Block(chance.Intn), checks.Bytes(chance.Intn, n)
		want := mac(t, key, b)
		for to := range n + 1 {
			for from := range to + 1 {
				hold(t, want, key, b[:from], b[from:to], b[to:])
			}
		}
	}
}

// P7.2: cut anywhere, into any number of parts; where the parts stand counts.
func TestCutByChance(t *testing.T) {
	chance := rand.New(rand.NewSource(77))
	for range 1500 {
		key, b := checks.Block(chance.Intn), checks.Bytes(chance.Intn, chance.Intn(300))
		hold(t, mac(t, key, b), key, checks.Cut(chance.Intn, b)...)
	}
	for _, size := range []int{1, 3, 5, 15, 16, 17, 32, 48, 64} {
		key, b := checks.Block(chance.Intn), checks.Bytes(chance.Intn, 960)
		hold(t, mac(t, key, b), key, slices.Collect(slices.Chunk(b, size))...)
	}
	key, a, b := checks.Filled(3), []byte("ab"), []byte("c")
	if Of(key, a, b) == Of(key, b, a) {
		t.Error("the order of parts does not count")
	}
	one, two := checks.Rising(16), checks.Rising(32)[16:]
	if Of(key, one, two) == Of(key, two, one) {
		t.Error("the order of blocks does not count")
	}
}

// P7.3: bytes that are no whole block, and the same filled, go into their last encryption with nothing that differs but the key's two blocks.
func TestFilled(t *testing.T) {
	chance := rand.New(rand.NewSource(78))
	for _, key := range [][16]byte{{}, checks.Filled(0xFF), checks.Block(chance.Intn), checks.Block(chance.Intn), checks.Block(chance.Intn)} {
		back := other(t, key)
		first, second := Blocks(key)
		for n := range 100 {
			if n%16 == 0 && n > 0 {
				continue
			}
			text := checks.Bytes(chance.Intn, n)
			short, whole := Of(key, text), Of(key, filled(text))
			if short == whole {
				t.Fatalf("key %x: %x, and it filled, have one MAC", key, text)
			}
			back.Decrypt(short[:], short[:])
			back.Decrypt(whole[:], whole[:])
			if turned(short, second) != turned(whole, first) {
				t.Fatalf("key %x, %x, and it filled: %x and %x, which differ by more than the key's two blocks", key, text, short, whole)
			}
			if n < 16 && turned(short, second) != [16]byte(filled(text)) {
				t.Fatalf("key %x, %x: %x was encrypted", key, text, short)
			}
		}
	}
}

// P7.1: of one whole block: that, turned by the first of the key's two blocks, is encrypted; of more the last one.
func TestWhole(t *testing.T) {
	chance := rand.New(rand.NewSource(79))
	for range 300 {
		key, b, last := checks.Block(chance.Intn), checks.Block(chance.Intn), checks.Block(chance.Intn)
		back := other(t, key)
		first, _ := Blocks(key)
		one, two := Of(key, b[:]), Of(key, b[:], last[:])
		var ahead [16]byte
		back.Encrypt(ahead[:], b[:])
		back.Decrypt(one[:], one[:])
		back.Decrypt(two[:], two[:])
		if one != turned(b, first) || two != turned(turned(last, ahead), first) {
			t.Fatalf("key %x, blocks %x, %x: %x and %x were encrypted", key, b, last, one, two)
		}
	}
}

// P7.1: the short one is how the MAC begins.
func TestShortBegins(t *testing.T) {
	chance := rand.New(rand.NewSource(80))
	for range 1000 {
		key, parts := checks.Block(chance.Intn), checks.Cut(chance.Intn, checks.Bytes(chance.Intn, chance.Intn(200)))
		whole, short := Of(key, parts...), Short(key, parts...)
		if !bytes.HasPrefix(whole[:], short[:]) {
			t.Fatalf("key %x, parts %x: %x, and short %x", key, parts, whole, short)
		}
	}
}

// P7.1: many bytes, in one part and in many.
func TestMany(t *testing.T) {
	text := []byte(strings.Repeat("a", 200001))
	key := checks.Filled(0x61)
	want := mac(t, key, text)
	if Of(key, text) != want || Of(key, checks.Single(text)...) != want || Of(key, text[:100000], text[100000:]) != want {
		t.Error("many bytes")
	}
	if got, want := Short(key, text[:200000]), mac(t, key, text[:200000]); got != [12]byte(want[:12]) {
		t.Errorf("many whole blocks: %x, not %x", got, want[:12])
	}
}

// R3: calls in any order, and again, answer the same.
func TestAnyOrder(t *testing.T) {
	chance := rand.New(rand.NewSource(81))
	keys := [][16]byte{{}, checks.Filled(0xFF), checks.Block(chance.Intn), checks.Block(chance.Intn)}
	var texts [][]byte
	for _, n := range []int{0, 1, 15, 16, 17, 31, 32, 33, 100} {
		texts = append(texts, checks.Bytes(chance.Intn, n))
	}
	for range 3000 {
		key, text := keys[chance.Intn(len(keys))], texts[chance.Intn(len(texts))]
		switch chance.Intn(3) {
		case 0:
			hold(t, mac(t, key, text), key, text)
		case 1:
			first, second := Blocks(key)
			if wantFirst, wantSecond := blocks(t, key); first != wantFirst || second != wantSecond {
				t.Fatalf("Blocks(%x) = %x, %x", key, first, second)
			}
		case 2:
			if got := Double(key); got != doubled(key) {
				t.Fatalf("Double(%x) = %x", key, got)
			}
		}
	}
}

// R4: the parts stay as they were, also behind their ends; what stands there does not count.
func TestPartsStay(t *testing.T) {
	chance := rand.New(rand.NewSource(82))
	all := checks.Bytes(chance.Intn, 300)
	was := slices.Clone(all)
	key := checks.Block(chance.Intn)
	for n := range 70 {
		text := all[40 : 40+n]
		parts := [][]byte{text[:n/2], nil, text[n/2:], {}}
		kept := slices.Clone(parts)
		want := mac(t, key, was[40:40+n])
		hold(t, want, key, text)
		hold(t, want, key, parts...)
		if !bytes.Equal(all, was) {
			t.Fatalf("%d bytes: these, or some beside them, were turned", n)
		}
		for i := range parts {
			if len(parts[i]) != len(kept[i]) || cap(parts[i]) != cap(kept[i]) || (parts[i] == nil) != (kept[i] == nil) {
				t.Fatalf("%d bytes: the list of parts was turned", n)
			}
		}
	}
}

// R4: arrays that were handed in stay; what is answered is the caller's; and nothing is kept.
func TestArraysStay(t *testing.T) {
	chance := rand.New(rand.NewSource(83))
	for range 100 {
		key, text := checks.Block(chance.Intn), checks.Bytes(chance.Intn, chance.Intn(60))
		was, kept := key, slices.Clone(text)
		want := mac(t, was, kept)
		whole, short, double := Of(key, text), Short(key, text), Double(key)
		first, second := Blocks(key)
		hold(t, mac(t, was, slices.Concat(was[:], was[:])), key, key[:], key[:])
		if key != was {
			t.Fatalf("key %x was turned into %x", was, key)
		}
		clear(text)
		clear(whole[:])
		clear(short[:])
		clear(double[:])
		clear(first[:])
		clear(second[:])
		hold(t, want, key, kept)
		if first, second = Blocks(key); Double(key) != doubled(was) || first != doubled(halved(first)) || Double(first) != second {
			t.Fatalf("key %x, asked again: %x, %x, %x", was, Double(key), first, second)
		}
		clear(key[:])
		hold(t, mac(t, key, text), key, text)
		hold(t, want, was, kept)
	}
}
