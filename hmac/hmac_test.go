package hmac

import (
	"bytes"
	stdhmac "crypto/hmac"
	"crypto/sha1"
	"encoding/hex"
	"math/rand"
	"slices"
	"strings"
	"testing"

	"downhaul/checks"
)

// size is how many bytes a block has.
const size = 64

// lengths are those of keys and of bytes, at the edges of a block and of SHA-1's last one, and far beyond them.
func lengths() []int {
	return []int{0, 1, 2, 12, 19, 20, 21, 54, 55, 56, 57, 62, 63, 64, 65, 66, 100, 119, 120, 127, 128, 129, 192, 200, 1000, 4096}
}

// spelt is a key's block by the chapter's words, with another SHA-1.
func spelt(key []byte) []byte {
	if len(key) > size {
		digest := sha1.Sum(key)
		key = digest[:]
	}
	return slices.Concat(key, make([]byte, size-len(key)))
}

// turned are bytes, each of which is turned by one.
func turned(b []byte, by byte) []byte {
	out := slices.Clone(b)
	for i := range out {
		out[i] ^= by
	}
	return out
}

// mac is the MAC by the chapter's words, with another SHA-1; it is held against another HMAC.
func mac(t *testing.T, key, text []byte) [20]byte {
	t.Helper()
	digest := sha1.Sum(slices.Concat(turned(spelt(key), 0x36), text))
	out := sha1.Sum(slices.Concat(turned(spelt(key), 0x5C), digest[:]))
	other := stdhmac.New(sha1.New, key)
	other.Write(text)
	if !bytes.Equal(other.Sum(nil), out[:]) {
		t.Fatalf("the test's own two differ: key %x, bytes %x", key, text)
	}
	return out
}

// P5.1: the chapter's example.
func TestExample(t *testing.T) {
	key := bytes.Repeat([]byte{0x0B}, 20)
	if got := Of(key, []byte("Hi There")); hex.EncodeToString(got[:]) != "b617318655057264e28bc0b6fb378c8ef146be00" {
		t.Errorf("%x", got)
	}
	if got := Short(key, []byte("Hi There")); hex.EncodeToString(got[:]) != "b617318655057264e28bc0b6" {
		t.Errorf("%x", got)
	}
}

// P5.1, P5.3: known MACs, of RFC 2202 and of FIPS 198's samples.
func TestKnown(t *testing.T) {
	for n, c := range []struct {
		key  []byte
		text string
		want string
	}{
		{bytes.Repeat([]byte{0x0B}, 20), "Hi There", "b617318655057264e28bc0b6fb378c8ef146be00"},
		{[]byte("Jefe"), "what do ya want for nothing?", "effcdf6ae5eb2fa2d27416d5f184df9c259a7c79"},
		{bytes.Repeat([]byte{0xAA}, 20), strings.Repeat("\xDD", 50), "125d7342b9ac11cd91a39af48aa17b4f63f175d3"},
		{checks.Rising(26)[1:], strings.Repeat("\xCD", 50), "4c9007f4026250c6bc8414f9bf50c86c2d7235da"},
		{bytes.Repeat([]byte{0x0C}, 20), "Test With Truncation", "4c1a03424b55e07fe7f27be1d58bb9324a9a5a04"},
		{bytes.Repeat([]byte{0xAA}, 80), "Test Using Larger Than Block-Size Key - Hash Key First", "aa4ae5e15272d00e95705637ce8a3b55ed402112"},
		{bytes.Repeat([]byte{0xAA}, 80), "Test Using Larger Than Block-Size Key and Larger Than One Block-Size Data", "e8e99d0f45237d786d6bbaa7965c7808bbff1a91"},
		{checks.Rising(64), "Sample message for keylen=blocklen", "5fd596ee78d5553c8ff4e72d266dfd192366da29"},
		{checks.Rising(20), "Sample message for keylen<blocklen", "4c99ff0cb1b31bd33f8431dbaf4d17fcd356a807"},
		{checks.Rising(100), "Sample message for keylen=blocklen", "2d51b2f7750e410584662e38f133435f4c4fd42a"},
		{nil, "", "fbdb1d1b18aa6c08324b7d64b71fb76370690e1d"},
		{[]byte("key"), "The quick brown fox jumps over the lazy dog", "de7c9b85b8b78aa6bc8a7a36f70a90701c9db4d9"},
	} {
		if got := Of(c.key, []byte(c.text)); hex.EncodeToString(got[:]) != c.want {
			t.Errorf("case %d: Of is %x, not %s", n, got, c.want)
		}
		if got := Short(c.key, []byte(c.text)); hex.EncodeToString(got[:]) != c.want[:24] {
			t.Errorf("case %d: Short is %x, not %s", n, got, c.want[:24])
		}
	}
}

// P5.1: the block of a key of each length: itself, and 0s; or its digest, and 0s.
func TestBlock(t *testing.T) {
	chance := rand.New(rand.NewSource(5))
	for n := range 3*size + 2 {
		for _, key := range [][]byte{checks.Bytes(chance.Intn, n), bytes.Repeat([]byte{0xFF}, n), make([]byte, n)} {
			got := Block(key)
			if want := spelt(key); !bytes.Equal(got[:], want) {
				t.Fatalf("Block(%x) = %x, not %x", key, got, want)
			}
		}
	}
	for _, c := range []struct{ key, want string }{
		{"", strings.Repeat("00", 64)},
		{"Jefe", "4a656665" + strings.Repeat("00", 60)},
		{strings.Repeat("a", 63), strings.Repeat("61", 63) + "00"},
		{strings.Repeat("a", 64), strings.Repeat("61", 64)},
		{strings.Repeat("a", 65), "11655326c708d70319be2610e8a57d9a5b959d3b" + strings.Repeat("00", 44)},
		{strings.Repeat("a", 1000000), "34aa973cd4c4daa4f61eeb2bdbad27316534016f" + strings.Repeat("00", 44)},
	} {
		if got := Block([]byte(c.key)); hex.EncodeToString(got[:]) != c.want {
			t.Errorf("Block(%d bytes) = %x, not %s", len(c.key), got, c.want)
		}
	}
}

// P5.1: keys and bytes of each length at the edges, held against two other reckonings, whole and short.
func TestEachLength(t *testing.T) {
	chance := rand.New(rand.NewSource(51))
	for _, k := range lengths() {
		for _, n := range lengths() {
			key, text := checks.Bytes(chance.Intn, k), checks.Bytes(chance.Intn, n)
			want := mac(t, key, text)
			if got := Of(key, text); got != want {
				t.Fatalf("key of %d, %d bytes: %x, not %x", k, n, got, want)
			}
			if got := Short(key, text); got != [12]byte(want[:12]) {
				t.Fatalf("key of %d, %d bytes: short %x, not %x", k, n, got, want[:12])
			}
		}
	}
	for k := range 2*size + 2 {
		key, text := checks.Bytes(chance.Intn, k), checks.Bytes(chance.Intn, chance.Intn(200))
		if got, want := Of(key, text), mac(t, key, text); got != want {
			t.Fatalf("Of(%x, %x) = %x, not %x", key, text, got, want)
		}
	}
}

// P5.1: no key, no bytes, no parts, in every way to have none.
func TestNothing(t *testing.T) {
	const none = "fbdb1d1b18aa6c08324b7d64b71fb76370690e1d"
	keys := [][]byte{nil, {}, []byte("key")[3:], make([]byte, 0, 64)}
	lists := [][][]byte{nil, {}, {nil}, {{}}, {nil, {}, nil}, {[]byte("abc")[3:], make([]byte, 0, 9)}}
	for k, key := range keys {
		if got := Block(key); got != [size]byte{} {
			t.Errorf("key %d: block %x", k, got)
		}
		for n, parts := range lists {
			if got := Of(key, parts...); hex.EncodeToString(got[:]) != none {
				t.Errorf("key %d, parts %d: %x", k, n, got)
			}
			if got := Short(key, parts...); hex.EncodeToString(got[:]) != none[:24] {
				t.Errorf("key %d, parts %d: short %x", k, n, got)
			}
		}
		if got, want := Of(key, []byte("abc")), mac(t, nil, []byte("abc")); got != want {
			t.Errorf("key %d: %x, not %x", k, got, want)
		}
	}
	for _, k := range lengths() {
		key := checks.Rising(k)
		want := mac(t, key, nil)
		for n, parts := range lists {
			if got := Of(key, parts...); got != want {
				t.Errorf("key of %d, parts %d: %x, not %x", k, n, got, want)
			}
		}
		if Of(key) != want || Short(key) != [12]byte(want[:12]) {
			t.Errorf("key of %d, without parts", k)
		}
	}
}

// P5.1: each bit of the key and of the bytes counts.
func TestEachBit(t *testing.T) {
	for _, k := range []int{1, 20, 63, 64, 65, 130} {
		text := checks.Rising(70)
		seen := map[[20]byte]int{Of(make([]byte, k), text): -1}
		for bit := range 8 * k {
			key := make([]byte, k)
			key[bit/8] = 1 << (bit % 8)
			got := Of(key, text)
			if other, there := seen[got]; there {
				t.Fatalf("key of %d: bits %d and %d have one MAC", k, bit, other)
			}
			if want := mac(t, key, text); got != want {
				t.Fatalf("key of %d, bit %d: %x, not %x", k, bit, got, want)
			}
			seen[got] = bit
		}
		clear(seen)
		for bit := range 8 * len(text) {
			text := make([]byte, len(text))
			text[bit/8] = 1 << (bit % 8)
			got := Of(checks.Rising(k), text[:35], text[35:])
			if other, there := seen[got]; there {
				t.Fatalf("key of %d: bits %d and %d of the bytes have one MAC", k, bit, other)
			}
			seen[got] = bit
		}
	}
}

// P5.2: cut in two at every place, and one by one.
func TestCutInTwo(t *testing.T) {
	chance := rand.New(rand.NewSource(52))
	for _, k := range []int{0, 1, 20, 63, 64, 65, 200} {
		key := checks.Bytes(chance.Intn, k)
		for _, n := range []int{1, 2, 3, 20, 55, 56, 63, 64, 65, 127, 128, 129, 200} {
			b := checks.Bytes(chance.Intn, n)
			want := mac(t, key, b)
			for at := range n + 1 {
				if got := Of(key, b[:at], b[at:]); got != want {
					t.Fatalf("key of %d, parts of %d and %d: %x, not %x", k, at, n-at, got, want)
				}
				if got := Short(key, b[:at], nil, b[at:]); got != [12]byte(want[:12]) {
					t.Fatalf("key of %d, parts of %d and %d: short %x, not %x", k, at, n-at, got, want[:12])
				}
			}
			if got := Of(key, checks.Single(b)...); got != want {
				t.Fatalf("key of %d, %d bytes one by one: %x, not %x", k, n, got, want)
			}
		}
	}
}

// P5.2, P5.3: cut anywhere, into any number of parts; where the parts stand counts.
func TestCutByChance(t *testing.T) {
	chance := rand.New(rand.NewSource(53))
	for range 1500 {
		key, b := checks.Bytes(chance.Intn, chance.Intn(150)), checks.Bytes(chance.Intn, chance.Intn(500))
		parts := checks.Cut(chance.Intn, b)
		want := mac(t, key, b)
		if got := Of(key, parts...); got != want {
			t.Fatalf("Of(%x, %x) = %x, not %x", key, parts, got, want)
		}
		if got := Short(key, parts...); got != [12]byte(want[:12]) {
			t.Fatalf("Short(%x, %x) = %x, not %x", key, parts, got, want[:12])
		}
	}
	key, a, b := []byte("key"), []byte("ab"), []byte("c")
	if Of(key, a, b) == Of(key, b, a) {
		t.Error("the order of parts does not count")
	}
	if Of(key, a) == Of(slices.Concat(key, a)) || Of(slices.Concat(key, a), b) == Of(key, a, b) {
		t.Error("where the key ends does not count")
	}
}

// P5.2: a key with bytes 0 behind it up to a block's end has the same block, and the same MACs; beyond that, another.
func TestZerosBehind(t *testing.T) {
	chance := rand.New(rand.NewSource(54))
	text := checks.Bytes(chance.Intn, 99)
	for _, k := range []int{0, 1, 19, 20, 21, 62, 63, 64} {
		key := checks.Bytes(chance.Intn, k)
		if k > 0 {
			key[k-1] |= 1
		}
		for n := k; n <= 2*size+2; n++ {
			longer := slices.Concat(key, make([]byte, n-k))
			same := n <= size
			if (Block(longer) == Block(key)) != same || (Of(longer, text) == Of(key, text)) != same || (Short(longer, text) == Short(key, text)) != same {
				t.Fatalf("key of %d, with bytes 0 up to %d: the same is not %v", k, n, same)
			}
			if got, want := Of(longer, text), mac(t, longer, text); got != want {
				t.Fatalf("key of %d, with bytes 0 up to %d: %x, not %x", k, n, got, want)
			}
		}
		if k > 0 && k < size && Of(slices.Concat(make([]byte, 1), key), text) == Of(key, text) {
			t.Errorf("key of %d: a byte 0 ahead does not count", k)
		}
	}
}

// P5.2: a key, its block, and, if it is longer than that, its digest, have the same MACs; a block is its own block.
func TestKeyAndItsBlock(t *testing.T) {
	chance := rand.New(rand.NewSource(55))
	for _, k := range lengths() {
		key, text := checks.Bytes(chance.Intn, k), checks.Bytes(chance.Intn, chance.Intn(300))
		block, want := Block(key), mac(t, key, text)
		if Block(block[:]) != block {
			t.Errorf("key of %d: its block has another one", k)
		}
		if got := Of(block[:], text); got != want {
			t.Errorf("key of %d: by its block %x, not %x", k, got, want)
		}
		if got := Short(block[:], text); got != [12]byte(want[:12]) {
			t.Errorf("key of %d: short by its block %x, not %x", k, got, want[:12])
		}
		digest := sha1.Sum(key)
		if same := k > size; (Of(digest[:], text) == want) != same || (Block(digest[:]) == block) != same {
			t.Errorf("key of %d: by its digest the same is not %v", k, same)
		}
	}
}

// P5.3: the short one is how the whole one begins.
func TestShortBegins(t *testing.T) {
	chance := rand.New(rand.NewSource(56))
	for range 1000 {
		key, parts := checks.Bytes(chance.Intn, chance.Intn(150)), checks.Cut(chance.Intn, checks.Bytes(chance.Intn, chance.Intn(300)))
		whole, short := Of(key, parts...), Short(key, parts...)
		if !bytes.HasPrefix(whole[:], short[:]) {
			t.Fatalf("key %x, parts %x: %x, and short %x", key, parts, whole, short)
		}
	}
}

// R3: calls in any order, and again, answer the same.
func TestAnyOrder(t *testing.T) {
	chance := rand.New(rand.NewSource(57))
	var keys, texts [][]byte
	for _, k := range lengths() {
		keys, texts = append(keys, checks.Bytes(chance.Intn, k)), append(texts, checks.Bytes(chance.Intn, k))
	}
	for range 3000 {
		key, text := keys[chance.Intn(len(keys))], texts[chance.Intn(len(texts))]
		want := mac(t, key, text)
		switch chance.Intn(3) {
		case 0:
			if got := Of(key, text); got != want {
				t.Fatalf("key of %d, %d bytes: %x, not %x", len(key), len(text), got, want)
			}
		case 1:
			if got := Short(key, text); got != [12]byte(want[:12]) {
				t.Fatalf("key of %d, %d bytes: short %x, not %x", len(key), len(text), got, want[:12])
			}
		case 2:
			if got := Block(key); !bytes.Equal(got[:], spelt(key)) {
				t.Fatalf("key of %d: block %x", len(key), got)
			}
		}
	}
}

// R4: the key and the parts stay as they were, also behind their ends; what stands there does not count.
func TestListsStay(t *testing.T) {
	chance := rand.New(rand.NewSource(58))
	all := checks.Bytes(chance.Intn, 600)
	was := slices.Clone(all)
	for _, k := range []int{0, 1, 20, 63, 64, 65, 130} {
		for _, n := range []int{0, 1, 20, 55, 64, 65, 200} {
			key, text := all[10:10+k], all[300:300+n]
			parts := [][]byte{text[:n/2], nil, text[n/2:], {}}
			want := mac(t, was[10:10+k], was[300:300+n])
			if Of(key, text) != want || Of(key, parts...) != want || Short(key, parts...) != [12]byte(want[:12]) {
				t.Errorf("key of %d, %d bytes, with some behind", k, n)
			}
			if block := Block(key); !bytes.Equal(block[:], spelt(was[10:10+k])) {
				t.Errorf("key of %d, with some behind: block %x", k, block)
			}
			if !bytes.Equal(all, was) {
				t.Fatalf("key of %d, %d bytes: they were written into", k, n)
			}
			if len(parts) != 4 || len(parts[0]) != n/2 || parts[1] != nil || len(parts[2]) != n-n/2 || parts[3] == nil {
				t.Fatalf("key of %d, %d bytes: the list of parts was written into", k, n)
			}
		}
	}
}

// R4: the key may be among the parts; what is answered is the caller's, and nothing that was handed in is kept.
func TestListsAreNotKept(t *testing.T) {
	chance := rand.New(rand.NewSource(59))
	for _, k := range []int{1, 20, 63, 64, 65, 130} {
		key := checks.Bytes(chance.Intn, k)
		was := slices.Clone(key)
		want := mac(t, was, slices.Concat(was, was))
		if got := Of(key, key, key); got != want {
			t.Errorf("key of %d, and twice as a part: %x, not %x", k, got, want)
		}
		block := Block(key)
		clear(key)
		if !bytes.Equal(block[:], spelt(was)) {
			t.Errorf("key of %d: its block was turned with it", k)
		}
		clear(block[:])
		if got := Of(was, was, was); got != want {
			t.Errorf("key of %d, asked again: %x, not %x", k, got, want)
		}
		if got := Of(key, key, key); got != mac(t, key, make([]byte, 2*k)) {
			t.Errorf("key of %d bytes 0 where others stood: %x", k, got)
		}
	}
}
