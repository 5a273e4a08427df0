package sha

import (
	"bytes"
	"crypto/sha1"
	"encoding/hex"
	"math/rand"
	"slices"
	"strings"
	"testing"

	"downhaul/checks"
)

// none is the digest of no bytes.
const none = "da39a3ee5e6b4b0d3255bfef95601890afd80709"

// told is a digest as hex digits.
func told(digest [20]byte) string { return hex.EncodeToString(digest[:]) }

// added is a Sum to which parts are added, one by one.
func added(s Sum, parts ...[]byte) Sum {
	for _, p := range parts {
		s = s.Add(p...)
	}
	return s
}

// single is a Sum to which bytes are added, one by one.
func single(s Sum, b []byte) Sum {
	for _, c := range b {
		s = s.Add(c)
	}
	return s
}

// letters are known digests of as many letters a.
func letters() map[int]string {
	return map[int]string{
		0: none, 1: "86f7e437faa5a7fce15d1ddcb9eaeaea377667b8",
		54: "b05d71c64979cb95fa74a33cdb31a40d258ae02e", 55: "c1c8bbdc22796e28c0e15163d20899b65621d65a",
		56: "c2db330f6083854c99d4b5bfb6e8f29f201be699", 57: "f08f24908d682555111be7ff6f004e78283d989a",
		63: "03f09f5b158a7a8cdad920bddc29b81c18a551f5", 64: "0098ba824b5c16427bd7a1122a5a442a25ec644d",
		65: "11655326c708d70319be2610e8a57d9a5b959d3b", 119: "ee971065aaa017e0632a8ca6c77bb3bf8b1dfc56",
		120: "f34c1488385346a55709ba056ddd08280dd4c6d6", 121: "fa6b5a6f8ac27182f838fe7841ec6d2aef3ade29",
		127: "89d95fa32ed44a7c610b7ee38517ddf57e0bb975", 128: "ad5b3fdbcb526778c2839d2f151ea753995e26a0",
		129: "d96debf1bdcbc896e6c134ea76e8141f40d78536", 183: "021fedbd6b884e3cdd89d7477ffe852155c37456",
		184: "2a4c545628c4875631e342e101f8af11cf48d252", 191: "f0d0429532d8c279879349ef6d15ec39a1f337c7",
		192: "9b1a580cb91c62712ce65498ebad252a1d83051d", 193: "8a3a12a43de5d50c9b65809e21f11912fd66a237",
		1000000: "34aa973cd4c4daa4f61eeb2bdbad27316534016f",
	}
}

// P4.1: the chapter's example.
func TestExample(t *testing.T) {
	if got := told(Of([]byte("abc"))); got != "a9993e364706816aba3e25717850c26c9cd0d89d" {
		t.Error(got)
	}
}

// P4.1: known digests, of FIPS 180's texts, and of letters up to each edge of a block, in all ways to ask.
func TestKnown(t *testing.T) {
	known := map[string]string{
		"abc": "a9993e364706816aba3e25717850c26c9cd0d89d",
		"abcdbcdecdefdefgefghfghighijhijkijkljklmklmnlmnomnopnopq":                                                         "84983e441c3bd26ebaae4aa1f95129e5e54670f1",
		"abcdefghbcdefghicdefghijdefghijkefghijklfghijklmghijklmnhijklmnoijklmnopjklmnopqklmnopqrlmnopqrsmnopqrstnopqrstu": "a49b2446a02c645bf419f995b67091253a04a259",
		strings.Repeat("01234567", 80): "dea356a2cddd90c7a7ecedc5ebb563934f460452",
	}
	for n, want := range letters() {
		known[strings.Repeat("a", n)] = want
	}
	for text, want := range known {
		b := []byte(text)
		if got := told(Of(b)); got != want {
			t.Errorf("Of(%d bytes, %.9q) = %s, not %s", len(b), text, got, want)
		}
		if got := told(New().Add(b...).Digest()); got != want {
			t.Errorf("New().Add(%d bytes, %.9q): %s, not %s", len(b), text, got, want)
		}
		if got := told(Sum{}.Add(b...).Digest()); got != want {
			t.Errorf("Sum{}.Add(%d bytes, %.9q): %s, not %s", len(b), text, got, want)
		}
		if got := told(single(New(), b).Digest()); got != want {
			t.Errorf("%d bytes, %.9q, one by one: %s, not %s", len(b), text, got, want)
		}
	}
}

// P4.1: no bytes, in every way to have none.
func TestNothing(t *testing.T) {
	var zero Sum
	for n, got := range [][20]byte{
		Of(), Of(nil), Of([]byte{}), Of(nil, []byte{}, nil), Of([][]byte{}...), Of([][]byte(nil)...), Of([]byte("abc")[3:]),
		New().Digest(), New().Add().Digest(), New().Add(nil...).Digest(), New().Add([]byte{}...).Digest(), New().Add().Add().Digest(),
		zero.Digest(), zero.Add().Digest(), zero.Add(nil...).Digest(), Sum{}.Digest(), new(Sum).Digest(), (&Sum{}).Add().Digest(), [3]Sum{}[1].Digest(),
	} {
		if told(got) != none {
			t.Errorf("way %d: %x", n, got)
		}
	}
	// Nothing added leaves as much as there was.
	for _, n := range []int{1, 55, 56, 63, 64, 65, 128} {
		s := New().Add(make([]byte, n)...)
		want := s.Digest()
		for k, got := range []Sum{s.Add(), s.Add(nil...), s.Add([]byte{}...)} {
			if got.Digest() != want {
				t.Errorf("%d bytes, nothing added in way %d", n, k)
			}
		}
	}
}

// P4.1: bytes of each length up to some blocks, held against another reckoning: only 0s, all bits 1, the byte that stands behind the last one, and by chance.
func TestEachLength(t *testing.T) {
	chance := rand.New(rand.NewSource(4))
	for n := range 64*6 + 2 {
		for _, b := range [][]byte{make([]byte, n), bytes.Repeat([]byte{0xFF}, n), bytes.Repeat([]byte{0x80}, n), checks.Bytes(chance.Intn, n)} {
			want := sha1.Sum(b)
			if got := Of(b); got != want {
				t.Fatalf("Of(%x) = %x, not %x", b, got, want)
			}
			if got := New().Add(b...).Digest(); got != want {
				t.Fatalf("%x added: %x, not %x", b, got, want)
			}
		}
	}
}

// P4.1: each single bit counts, at every place of the blocks, and so does each byte's value.
func TestEachBit(t *testing.T) {
	for _, n := range []int{1, 55, 56, 64, 130} {
		seen := map[[20]byte]int{Of(make([]byte, n)): -1}
		for bit := range 8 * n {
			b := make([]byte, n)
			b[bit/8] = 1 << (bit % 8)
			got := Of(b)
			if want := sha1.Sum(b); got != want {
				t.Fatalf("%d bytes, bit %d: %x, not %x", n, bit, got, want)
			}
			if other, there := seen[got]; there {
				t.Fatalf("%d bytes: bits %d and %d have one digest", n, bit, other)
			}
			seen[got] = bit
		}
	}
	for c := range 256 {
		if got, want := Of([]byte{byte(c)}), sha1.Sum([]byte{byte(c)}); got != want {
			t.Errorf("byte %d: %x, not %x", c, got, want)
		}
	}
}

// P4.1: so many bytes that how many bits there are passes 32 bits; digests known from elsewhere.
func TestManyBits(t *testing.T) {
	part := make([]byte, 1<<20)
	s := New()
	for range 511 {
		s = s.Add(part...)
	}
	for _, c := range []struct {
		n    int
		want string
	}{
		{1<<29 - 1, "7d32aa572655d797397393e83c8204082f7e71e5"},
		{1 << 29, "5b088492c9f4778f409b7ae61477dec124c99033"},
		{1<<29 + 65, "4e9e0cd421ea370b6042a7676544345507f3ffb6"},
	} {
		if got := told(s.Add(make([]byte, c.n-511<<20)...).Digest()); got != c.want {
			t.Errorf("%d bytes 0: %s, not %s", c.n, got, c.want)
		}
	}
}

// P4.2: cut in two at every place, and added one by one.
func TestCutInTwo(t *testing.T) {
	chance := rand.New(rand.NewSource(42))
	for _, n := range []int{1, 2, 3, 54, 55, 56, 57, 62, 63, 64, 65, 66, 119, 120, 127, 128, 129, 183, 184, 192, 200, 256} {
		b := checks.Bytes(chance.Intn, n)
		want := sha1.Sum(b)
		for at := range n + 1 {
			if got := Of(b[:at], b[at:]); got != want {
				t.Fatalf("%d bytes in parts of %d and %d: %x, not %x", n, at, n-at, got, want)
			}
			if got := added(New(), b[:at], b[at:]).Digest(); got != want {
				t.Fatalf("%d bytes, added by %d and %d: %x, not %x", n, at, n-at, got, want)
			}
			if got := single(New().Add(b[:at]...), b[at:]).Digest(); got != want {
				t.Fatalf("%d bytes, %d at once, the others one by one: %x, not %x", n, at, got, want)
			}
			if got := single(Sum{}, b[:at]).Add(b[at:]...).Digest(); got != want {
				t.Fatalf("%d bytes, %d one by one, the others at once: %x, not %x", n, at, got, want)
			}
		}
	}
}

// P4.2: cut anywhere, into any number of parts.
func TestCutByChance(t *testing.T) {
	chance := rand.New(rand.NewSource(43))
	for range 1500 {
		b := checks.Bytes(chance.Intn, chance.Intn(700))
		want := sha1.Sum(b)
		parts := checks.Cut(chance.Intn, b)
		if got := Of(parts...); got != want {
			t.Fatalf("Of(%x) = %x, not %x", parts, got, want)
		}
		if got := added(New(), parts...).Digest(); got != want {
			t.Fatalf("%x, added one by one: %x, not %x", parts, got, want)
		}
	}
	// Where it is cut does not count, but in which order the parts come does.
	if Of([]byte("ab"), []byte("c")) != Of([]byte("a"), []byte("bc")) || Of([]byte("c"), []byte("ab")) == Of([]byte("ab"), []byte("c")) {
		t.Error("the order of parts")
	}
}

// P4.2: Sums of the same bytes are the same, however these were added: nothing else stands in them.
func TestSumsAreSame(t *testing.T) {
	chance := rand.New(rand.NewSource(44))
	if New() != (Sum{}) {
		t.Error("New is not the zero Sum")
	}
	for n := range 200 {
		b := checks.Bytes(chance.Intn, n)
		s := New().Add(b...)
		if single(New(), b) != s || added(Sum{}, checks.Cut(chance.Intn, b)...) != s {
			t.Fatalf("%d bytes: not the same", n)
		}
	}
}

// P4.3: a Sum is added to in two ways; its own digest stays, and so does that of both.
func TestTwoWays(t *testing.T) {
	chance := rand.New(rand.NewSource(45))
	for n := range 200 {
		b := checks.Bytes(chance.Intn, n)
		s := New().Add(b...)
		copied, want := s, sha1.Sum(b)
		for _, more := range []int{0, 1, 8, 9, 55, 56, 63, 64, 65, 130} {
			one, other := checks.Bytes(chance.Intn, more), checks.Bytes(chance.Intn, more)
			a := s.Add(one...)
			z := s.Add(other...)
			further := a.Add(other...)
			for k, c := range []struct {
				got  Sum
				want [20]byte
			}{
				{s, want}, {copied, want}, {a, sha1.Sum(slices.Concat(b, one))}, {z, sha1.Sum(slices.Concat(b, other))}, {further, sha1.Sum(slices.Concat(b, one, other))},
			} {
				if got := c.got.Digest(); got != c.want {
					t.Fatalf("%d bytes, and %d more, Sum %d: %x, not %x", n, more, k, got, c.want)
				}
			}
		}
	}
	// The zero Sum too, and New's.
	var zero Sum
	made := New()
	zero.Add(1, 2, 3)
	made.Add(make([]byte, 64)...)
	if told(zero.Digest()) != none || told(made.Digest()) != none || told(New().Digest()) != none {
		t.Error("a Sum of no bytes was turned")
	}
}

// P4.1, P4.3, R3: a digest that is asked for twice is the same, and turns nothing that comes behind.
func TestDigestTwice(t *testing.T) {
	chance := rand.New(rand.NewSource(46))
	for n := range 200 {
		b, more := checks.Bytes(chance.Intn, n), checks.Bytes(chance.Intn, 70)
		s := New().Add(b...)
		want := sha1.Sum(b)
		for k := range 3 {
			if got := s.Digest(); got != want {
				t.Fatalf("%d bytes, asked for the %d. time: %x, not %x", n, k+1, got, want)
			}
		}
		if got, want := s.Add(more...).Digest(), sha1.Sum(slices.Concat(b, more)); got != want {
			t.Fatalf("%d bytes, added to behind its digest: %x, not %x", n, got, want)
		}
		if Of(b) != want || Of(b) != want {
			t.Fatalf("%d bytes: Of is not the same again", n)
		}
	}
}

// P4.3, R5: many Sums, added to and asked in any order, each held against the bytes that it is of.
func TestAnyOrder(t *testing.T) {
	chance := rand.New(rand.NewSource(47))
	sums, texts := []Sum{New(), {}}, [][]byte{nil, nil}
	for range 4000 {
		at := chance.Intn(len(sums))
		if chance.Intn(3) == 0 {
			if got, want := sums[at].Digest(), sha1.Sum(texts[at]); got != want {
				t.Fatalf("of %x: %x, not %x", texts[at], got, want)
			}
			continue
		}
		more := checks.Bytes(chance.Intn, chance.Intn(1+chance.Intn(100)))
		sums = append(sums, sums[at].Add(more...))
		texts = append(texts, slices.Concat(texts[at], more))
	}
	for i, s := range sums {
		if got, want := s.Digest(), sha1.Sum(texts[i]); got != want {
			t.Fatalf("at last, of %x: %x, not %x", texts[i], got, want)
		}
	}
}

// R4: the bytes stay as they were, also behind their ends; what stands there does not count.
func TestBytesStay(t *testing.T) {
	chance := rand.New(rand.NewSource(48))
	all := checks.Bytes(chance.Intn, 300)
	was := slices.Clone(all)
	for _, n := range []int{0, 1, 20, 55, 56, 63, 64, 65, 128, 200} {
		want := sha1.Sum(was[10 : 10+n])
		parts := [][]byte{all[10 : 10+n/2], nil, all[10+n/2 : 10+n]}
		if Of(all[10:10+n]) != want || Of(parts...) != want || New().Add(all[10:10+n]...).Digest() != want {
			t.Errorf("%d bytes with some behind", n)
		}
		if !bytes.Equal(all, was) || len(parts) != 3 || len(parts[0]) != n/2 || parts[1] != nil {
			t.Fatalf("%d bytes: they were written into", n)
		}
	}
}

// R4: a Sum keeps none of the lists that it was handed: who writes into them afterwards turns nothing.
func TestBytesAreNotKept(t *testing.T) {
	chance := rand.New(rand.NewSource(49))
	for _, n := range []int{1, 20, 55, 56, 63, 64, 65, 127, 128, 130} {
		b := checks.Bytes(chance.Intn, n)
		want := sha1.Sum(slices.Concat(b, b))
		s := New().Add(b...)
		again := s.Add(b...)
		clear(b)
		if got := again.Digest(); got != want {
			t.Errorf("%d bytes: %x, not %x", n, got, want)
		}
	}
}
