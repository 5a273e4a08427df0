package kdf

import (
	"bytes"
	stdhmac "crypto/hmac"
	"crypto/sha1"
	"encoding/binary"
	"encoding/hex"
	"math/rand"
	"slices"
	"strings"
	"testing"

	"downhaul/api"
	"downhaul/checks"
	"downhaul/cmac"
)

// algs are both algorithms.
func algs() []int { return []int{SHA1, AES} }

// end is an end of the bytes of an address, and a port.
func end(port uint16, b ...byte) api.End {
	e := api.End{Port: port}
	e.Addr.Six = len(b) == 16
	copy(e.Addr.B[:], b)
	return e
}

// six is an end whose address begins with FD, and ends with a byte.
func six(last byte, port uint16) api.End {
	b := checks.Filled(0)
	b[0], b[15] = 0xFD, last
	return end(port, b[:]...)
}

// way is one way of a connection.
type way struct {
	src, dst       api.End
	srcISN, dstISN uint32
}

// back is the other way of that connection.
func (w way) back() way { return way{w.dst, w.src, w.dstISN, w.srcISN} }

// context is a way's context.
func (w way) context(t *testing.T) []byte {
	t.Helper()
	got, e := Context(w.src, w.dst, w.srcISN, w.dstISN)
	if e != api.OK {
		t.Fatalf("Context(%v): %v", w, e)
	}
	return got
}

// spelt is the context by the chapter's words.
func (w way) spelt() []byte {
	many := 4
	if w.src.Addr.Six {
		many = 16
	}
	b := slices.Concat(w.src.Addr.B[:many], w.dst.Addr.B[:many])
	b = binary.BigEndian.AppendUint16(b, w.src.Port)
	b = binary.BigEndian.AppendUint16(b, w.dst.Port)
	b = binary.BigEndian.AppendUint32(b, w.srcISN)
	return binary.BigEndian.AppendUint32(b, w.dstISN)
}

// bits are how many bits a way's addresses have.
func (w way) bits() int {
	if w.src.Addr.Six {
		return 128
	}
	return 32
}

// turned is a way, of which one bit is turned: of all that count, in the order of the context, the bit 0 first.
func (w way) turned(bit int) way {
	each := w.bits()
	at := bit - 2*each
	switch {
	case bit < each:
		w.src.Addr.B = checks.Flipped(w.src.Addr.B, bit)
	case bit < 2*each:
		w.dst.Addr.B = checks.Flipped(w.dst.Addr.B, bit-each)
	case at < 16:
		w.src.Port ^= 0x8000 >> at
	case at < 32:
		w.dst.Port ^= 0x8000 >> (at - 16)
	case at < 64:
		w.srcISN ^= 0x80000000 >> (at - 32)
	default:
		w.dstISN ^= 0x80000000 >> (at - 64)
	}
	return w
}

// byChance is a way by chance; nothing stands behind the fourth byte of its addresses, if they are of four.
func byChance(chance *rand.Rand, many int) way {
	return way{
		end(uint16(chance.Uint32()), checks.Bytes(chance.Intn, many)...), end(uint16(chance.Uint32()), checks.Bytes(chance.Intn, many)...),
		chance.Uint32(), chance.Uint32(),
	}
}

// keyOf is the key that must be.
func keyOf(t *testing.T, alg int, master, context []byte) []byte {
	t.Helper()
	got, e := Key(alg, master, context)
	if e != api.OK {
		t.Fatalf("Key(%d, %x, %x): %v", alg, master, context, e)
	}
	return got
}

// wanted is the traffic key by the chapter's words: by another HMAC, or by layer 7.
func wanted(alg int, master, context []byte) []byte {
	if alg == SHA1 {
		other := stdhmac.New(sha1.New, master)
		other.Write(slices.Concat([]byte{1}, []byte("TCP-AO"), context, []byte{0, 160}))
		return other.Sum(nil)
	}
	by := cmac.Of([16]byte{}, master)
	if len(master) == 16 {
		copy(by[:], master)
	}
	out := cmac.Of(by, slices.Concat([]byte{1}, []byte("TCP-AO"), context, []byte{0, 128}))
	return out[:]
}

// wantedMAC is the MAC of bytes by the chapter's words: by another HMAC, or by layer 7.
func wantedMAC(alg int, key, text []byte) [12]byte {
	if alg == SHA1 {
		other := stdhmac.New(sha1.New, key)
		other.Write(text)
		return [12]byte(other.Sum(nil))
	}
	out := cmac.Of([16]byte(key), text)
	return [12]byte(out[:12])
}

// hold holds the MAC of some parts against one that is known.
func hold(t *testing.T, want [12]byte, alg int, key []byte, parts ...[]byte) {
	t.Helper()
	if got, e := MAC(alg, key, parts...); got != want || e != api.OK {
		t.Fatalf("MAC(%d, %x, %x) = %x, %v, not %x", alg, key, parts, got, e, want)
	}
}

// P8.2: the chapter's example, and the same by SHA1.
func TestExample(t *testing.T) {
	for _, c := range []struct {
		alg  int
		want string
	}{{AES, "21e22809408e96abfa2dbf82b94a928f"}, {SHA1, "3355d8f5cd1506aef750ce23bc732026cc894b3b"}} {
		for _, nothing := range [][]byte{nil, {}} {
			if got := keyOf(t, c.alg, make([]byte, 16), nothing); hex.EncodeToString(got) != c.want {
				t.Errorf("%d: %x, not %s", c.alg, got, c.want)
			}
		}
	}
	if got := keyOf(t, AES, make([]byte, 16), nil); len(got) != 16 {
		t.Errorf("%d bytes", len(got))
	}
}

// P8.1: the algorithms' numbers, their sizes, and those of numbers that are neither.
func TestSize(t *testing.T) {
	if SHA1 != 1 || AES != 2 {
		t.Error(SHA1, AES)
	}
	if Size(1) != 20 || Size(2) != 16 {
		t.Error(Size(1), Size(2))
	}
	for _, alg := range checks.NoAlgs() {
		if got := Size(alg); got != 0 {
			t.Errorf("Size(%d) = %d", alg, got)
		}
	}
	for alg := -1000; alg <= 1000; alg++ {
		if got := Size(alg); (got != 0) != (alg == SHA1 || alg == AES) {
			t.Errorf("Size(%d) = %d", alg, got)
		}
	}
}

// P8.1: known contexts: those of RFC 9235's connections, and of bytes that all differ.
func TestKnownContext(t *testing.T) {
	rising := checks.Rising(48)
	for _, c := range []struct {
		way  way
		want string
	}{
		{way{end(0xE9D7, 10, 11, 12, 13), end(179, 172, 27, 28, 29), 0xFBFBAB5A, 0}, "0a0b0c0d ac1b1c1d e9d7 00b3 fbfbab5a 00000000"},
		{way{end(179, 172, 27, 28, 29), end(0xE9D7, 10, 11, 12, 13), 0x11C14261, 0xFBFBAB5A}, "ac1b1c1d 0a0b0c0d 00b3 e9d7 11c14261 fbfbab5a"},
		{way{end(0x0908, 1, 2, 3, 4), end(0x0B0A, 5, 6, 7, 8), 0x0F0E0D0C, 0x13121110}, "01020304 05060708 0908 0b0a 0f0e0d0c 13121110"},
		{way{six(1, 0xF7E4), six(2, 179), 0x176A833F, 0x3F51994B}, "fd000000000000000000000000000001 fd000000000000000000000000000002 f7e4 00b3 176a833f 3f51994b"},
		{
			way{end(0x2021, rising[:16]...), end(0x2223, rising[16:32]...), 0x24252627, 0x28292A2B},
			"000102030405060708090a0b0c0d0e0f 101112131415161718191a1b1c1d1e1f 2021 2223 24252627 28292a2b",
		},
		{way{}, strings.Repeat("00", 20)},
		{way{src: end(0, make([]byte, 16)...), dst: end(0, make([]byte, 16)...)}, strings.Repeat("00", 44)},
		{way{end(65535, 255, 255, 255, 255), end(65535, 255, 255, 255, 255), 1<<32 - 1, 1<<32 - 1}, strings.Repeat("ff", 20)},
		{
			way{end(65535, bytes.Repeat([]byte{255}, 16)...), end(65535, bytes.Repeat([]byte{255}, 16)...), 1<<32 - 1, 1<<32 - 1},
			strings.Repeat("ff", 44),
		},
	} {
		if got := c.way.context(t); !bytes.Equal(got, checks.Unhex(c.want)) {
			t.Errorf("Context(%v) = %x, not %s", c.way, got, c.want)
		}
	}
}

// P8.1: ends of both kinds, with ports and initial numbers at their edges and by chance.
func TestContext(t *testing.T) {
	chance := rand.New(rand.NewSource(8))
	for _, many := range []int{4, 16} {
		for range 2000 {
			w := byChance(chance, many)
			if got := w.context(t); !bytes.Equal(got, w.spelt()) {
				t.Fatalf("Context(%v) = %x, not %x", w, got, w.spelt())
			}
		}
		for _, port := range []uint16{0, 1, 255, 256, 0x7FFF, 0x8000, 0xFF00, 0xFFFF} {
			for _, n := range []uint32{0, 1, 255, 256, 0xFFFF, 0x10000, 0x7FFFFFFF, 0x80000000, 0xFF000000, 0xFFFFFFFF} {
				w := byChance(chance, many)
				w.src.Port, w.dstISN = port, n
				for _, w := range []way{w, w.back()} {
					if got := w.context(t); !bytes.Equal(got, w.spelt()) {
						t.Fatalf("Context(%v) = %x, not %x", w, got, w.spelt())
					}
				}
			}
		}
	}
}

// P8.1: what stands behind the fourth byte of an address of four is no byte of it.
func TestBehindTheFourth(t *testing.T) {
	w := way{end(1, 10, 0, 0, 1), end(2, 10, 0, 0, 2), 3, 4}
	want := w.spelt()
	for at := 4; at < 16; at++ {
		src, dst := w, w
		src.src.Addr.B[at], dst.dst.Addr.B[at] = 0xFF, 1
		if got := src.context(t); !bytes.Equal(got, want) {
			t.Errorf("byte %d of the source's: %x, not %x", at, got, want)
		}
		if got := dst.context(t); !bytes.Equal(got, want) {
			t.Errorf("byte %d of the destination's: %x, not %x", at, got, want)
		}
	}
}

// P8.1: one address of four bytes and one of sixteen, whatever else there is: ErrArg, and nothing besides.
func TestUnlikeAddresses(t *testing.T) {
	chance := rand.New(rand.NewSource(81))
	ways := []way{{dst: six(1, 2)}, {dst: end(0, make([]byte, 16)...)}, {src: end(9, 10, 0, 0, 1), dst: six(1, 9)}}
	for range 100 {
		w := byChance(chance, 4)
		w.dst = byChance(chance, 16).dst
		ways = append(ways, w)
	}
	for _, w := range ways {
		for _, w := range []way{w, w.back()} {
			if got, e := Context(w.src, w.dst, w.srcISN, w.dstISN); got != nil || e != api.ErrArg {
				t.Errorf("Context(%v) = %x, %v", w, got, e)
			}
		}
	}
}

// P8.3: the other way's context is this one's, each two of whose halves have changed their places.
func TestTurnedAbout(t *testing.T) {
	chance := rand.New(rand.NewSource(82))
	for _, many := range []int{4, 16} {
		for range 1000 {
			w := byChance(chance, many)
			there, back := w.context(t), w.back().context(t)
			about := slices.Concat(there[many:2*many], there[:many], there[2*many+2:2*many+4], there[2*many:2*many+2], there[2*many+8:], there[2*many+4:2*many+8])
			if !bytes.Equal(back, about) {
				t.Fatalf("%v: %x, and back %x, not %x", w, there, back, about)
			}
			if bytes.Equal(back, there) {
				t.Fatalf("%v: both ways have the context %x", w, there)
			}
			if again := w.back().back().context(t); !bytes.Equal(again, there) {
				t.Fatalf("%v: %x, and turned about twice %x", w, there, again)
			}
			for _, alg := range algs() {
				if bytes.Equal(keyOf(t, alg, []byte("testvector"), there), keyOf(t, alg, []byte("testvector"), back)) {
					t.Fatalf("%v: both ways have one key by %d", w, alg)
				}
			}
		}
	}
}

// P8.3: ways that differ in one of three alone, the address, the port or the initial number, are told from each other.
func TestTurnedAboutByOne(t *testing.T) {
	alike := way{end(9, 1, 2, 3, 4), end(9, 1, 2, 3, 4), 7, 7}
	if !bytes.Equal(alike.context(t), alike.back().context(t)) {
		t.Errorf("%v: %x, and back %x", alike, alike.context(t), alike.back().context(t))
	}
	for _, w := range []way{
		{end(9, 1, 2, 3, 4), end(9, 1, 2, 3, 5), 7, 7},
		{end(9, 1, 2, 3, 4), end(8, 1, 2, 3, 4), 7, 7},
		{end(9, 1, 2, 3, 4), end(9, 1, 2, 3, 4), 7, 6},
		{six(1, 9), six(2, 9), 7, 7},
		{six(1, 9), six(1, 8), 7, 7},
		{six(1, 9), six(1, 9), 7, 6},
	} {
		if bytes.Equal(w.context(t), w.back().context(t)) {
			t.Errorf("%v: both ways have the context %x", w, w.context(t))
		}
	}
}

// P8.5: each bit of the ends and of the numbers is one of the context, at its own place: no two ways have one context.
func TestEachBitOfContext(t *testing.T) {
	chance := rand.New(rand.NewSource(83))
	zeros, ones := make([]byte, 16), bytes.Repeat([]byte{0xFF}, 16)
	for _, many := range []int{4, 16} {
		for _, w := range []way{
			{end(0, zeros[:many]...), end(0, zeros[:many]...), 0, 0},
			{end(65535, ones[:many]...), end(65535, ones[:many]...), 1<<32 - 1, 1<<32 - 1},
			byChance(chance, many), byChance(chance, many),
		} {
			was := w.context(t)
			for bit := range 8 * len(was) {
				want := slices.Clone(was)
				want[bit/8] ^= 0x80 >> (bit % 8)
				if got := w.turned(bit).context(t); !bytes.Equal(got, want) {
					t.Fatalf("%v, with the bit %d turned: %x, not %x", w, bit, got, want)
				}
			}
		}
	}
}

// P8.5: unlike ways have unlike contexts: pieces of one way changed with each other, and ends of four beside those of sixteen.
func TestContextsDiffer(t *testing.T) {
	of := map[string]way{} // which way has a context
	meet := func(w way) {
		c := string(w.context(t))
		if first, there := of[c]; there && first != w {
			t.Fatalf("%v and %v both have the context %x", first, w, c)
		}
		of[c] = w
	}
	ports, numbers := []uint16{0, 1, 256, 65535}, []uint32{0, 1, 1 << 16, 1<<32 - 1}
	addrs := [][]byte{{0, 0, 0, 0}, {10, 0, 0, 1}, {1, 0, 0, 10}}
	for _, a := range addrs {
		addrs = append(addrs, slices.Concat(a, make([]byte, 12)), slices.Concat(make([]byte, 12), a), slices.Concat(a, a, a, a))
	}
	for _, a := range addrs {
		for _, b := range addrs {
			for _, p := range ports {
				for _, q := range ports {
					for _, n := range numbers {
						for _, m := range numbers {
							if len(a) == len(b) {
								meet(way{end(p, a...), end(q, b...), n, m})
							}
						}
					}
				}
			}
		}
	}
	if len(of) != (3*3+7*7)*4*4*4*4 { // three addresses of four bytes, and seven of sixteen: of the nine there are three bytes 0 only
		t.Errorf("%d contexts", len(of))
	}
}

// P8.2: the keys of RFC 9235's connections, of their Syns and of their other segments (OpenSSL reckons the same).
func TestKnownKeys(t *testing.T) {
	client, server := end(0xE9D7, 10, 11, 12, 13), end(179, 172, 27, 28, 29)
	other := end(0xC4FA, 10, 11, 12, 13)
	for _, c := range []struct {
		alg  int
		way  way
		want string
	}{
		{SHA1, way{client, server, 0xFBFBAB5A, 0}, "6d63ef1b 02fe1509 d4b14027 07fd7b04 16abb74f"},
		{SHA1, way{server, client, 0x11C14261, 0xFBFBAB5A}, "d9e217e4 834a80ca 2f3fd8de 2e41b8e6 797fea96"},
		{SHA1, way{client, server, 0xFBFBAB5A, 0x11C14261}, "d2e59c65 ffc7b1a3 93476564 63b70edc 24a13d71"},
		{AES, way{other, server, 0x787A1DDF, 0}, "f5b8b3d5 f34fdbb6 eb8d4ab9 660e60e3"},
		{AES, way{server, other, 0xFADD6DE9, 0x787A1DDF}, "4bc7571a 486f3264 bbd88847 4066b4b1"},
		{AES, way{other, server, 0x787A1DDF, 0xFADD6DE9}, "8c8ae0e8 371ec5cb b97ea79d 90418391"},
		{SHA1, way{six(1, 0xF7E4), six(2, 179), 0x176A833F, 0}, "625ec09d 575836ed c9b64284 18bbf069 89a361bb"},
		{SHA1, way{six(2, 179), six(1, 0xF7E4), 0x3F51994B, 0x176A833F}, "e4a37ada 2a0afca8 71143491 3fe138c7 71ebcb4a"},
		{SHA1, way{six(1, 0xF7E4), six(2, 179), 0x176A833F, 0x3F51994B}, "1ed82975 f4ea444c 61580c5b d90dbd61 bbc91b7e"},
		{AES, way{six(1, 0xF85A), six(2, 179), 0x193CCCEC, 0}, "fa5a2108 882d39d0 c7192917 5ab1b7b8"},
		{AES, way{six(2, 179), six(1, 0xF85A), 0xA6744ECB, 0x193CCCEC}, "cf1b1e22 5e06a636 16764a06 7b46f4b1"},
		{AES, way{six(1, 0xF85A), six(2, 179), 0x193CCCEC, 0xA6744ECB}, "6174c355 7abed275 74dba371 85f00300"},
	} {
		if got := keyOf(t, c.alg, []byte("testvector"), c.way.context(t)); !bytes.Equal(got, checks.Unhex(c.want)) {
			t.Errorf("Key(%d) of %v = %x, not %s", c.alg, c.way, got, c.want)
		}
	}
}

// P8.2: known keys, which OpenSSL reckons: of master keys of each length at the edges, and of contexts of no bytes and of many.
func TestKnownLengths(t *testing.T) {
	for _, c := range []struct {
		master, context int
		sha1, aes       string
	}{
		{1, 20, "e7b0c3a576731f184009c1ac6ee4900213603372", "76d9d6187e7f8a62288fe565de4e895a"},
		{15, 20, "76bd249f286334a448cc51bb020237b91814fa69", "bc181fda59ee1d7c6c39ee7bc97de520"},
		{16, 20, "43c1a73cb5a864c4bcbc008291dca1db6561c245", "8603c6ce130fac509bdfd2c78a918099"},
		{17, 20, "78100e016707d25f08def6f4bf92b89fa63b050f", "36e14e059a9fb832d5dfd43ac5321f06"},
		{20, 20, "9ada552c48a52393d03db903afed931c9aeb5d17", "4b96505c340bd074b91d6a95efd7a0e1"},
		{64, 20, "5e7c316a191f3fde2906103051c48ac1f4c39535", "fc8cabe901fe4e6d4e79862ce1a24abe"},
		{65, 20, "4454c8078a6dc5ded5554135f405788ec6eab537", "03dc9ae0f2b018067e2e1de1fc236211"},
		{79, 20, "d0b4f861bba4a177f132545b5ac0ed32d42133cd", "79386f69d388425c3ea88fc706665112"},
		{80, 20, "ee2f5b345f218bf7892cd588bb100f4db6618957", "cc9d3be8baa54fca7fe8d5da4235adaa"},
		{16, 0, "63cebefa6b1febf4e81f591fce61d8c8bb0f8c37", "1767108c88846a4ec802e427111910da"},
		{16, 1, "96acf0a266e12fc09d002c67b81138d98878ed27", "89055ef08928e0738ddfc394ad1d6c69"},
		{16, 7, "7d32413acee36b43600bd8e436f06b141abe058d", "deb88452e4f425220ac0466f067a8e72"},
		{16, 44, "9f9c089780e81020462a35ae03ecee8e51d2664e", "6b706cbeb38ef0cdc420c65ea2b22c79"},
		{16, 64, "f2b082b9b1a545cfb60df764ad55743a7c960035", "40e4af80097c2093f67e21b2918af73a"},
		{16, 1000, "80d24da761372a781515967a426d80ece5411cc7", "742a360f32d045cac11051d8e4d6c60f"},
	} {
		master, context := checks.Rising(c.master + 1)[1:], checks.Rising(c.context)
		if got := keyOf(t, SHA1, master, context); hex.EncodeToString(got) != c.sha1 {
			t.Errorf("master of %d, context of %d, by SHA1: %x, not %s", c.master, c.context, got, c.sha1)
		}
		if got := keyOf(t, AES, master, context); hex.EncodeToString(got) != c.aes {
			t.Errorf("master of %d, context of %d, by AES: %x, not %s", c.master, c.context, got, c.aes)
		}
	}
}

// P8.2, P8.4: master keys of each length that may be, and contexts of many lengths; a key has as many bytes as its size.
func TestEachLength(t *testing.T) {
	chance := rand.New(rand.NewSource(84))
	for _, alg := range algs() {
		for k := 1; k <= 80; k++ {
			for _, n := range []int{0, 1, 6, 7, 8, 20, 44, 55, 64, 65, 100, 4096} {
				context := checks.Bytes(chance.Intn, n)
				for _, master := range [][]byte{checks.Bytes(chance.Intn, k), make([]byte, k), bytes.Repeat([]byte{0xFF}, k)} {
					got := keyOf(t, alg, master, context)
					if want := wanted(alg, master, context); !bytes.Equal(got, want) {
						t.Fatalf("Key(%d, %x, %x) = %x, not %x", alg, master, context, got, want)
					}
					if len(got) != Size(alg) {
						t.Fatalf("Key(%d, %x, %x) has %d bytes", alg, master, context, len(got))
					}
				}
			}
		}
		many := bytes.Repeat([]byte("context "), 1<<17)
		if got, want := keyOf(t, alg, []byte("testvector"), many), wanted(alg, []byte("testvector"), many); !bytes.Equal(got, want) {
			t.Errorf("Key(%d) of many bytes = %x, not %x", alg, got, want)
		}
	}
}

// P8.2: by AES a master key of sixteen bytes is the key itself; any other one is that of its MAC, and no other length's, with bytes 0 behind.
func TestMasterByAES(t *testing.T) {
	chance := rand.New(rand.NewSource(85))
	context := checks.Rising(20)
	for k := 1; k <= 80; k++ {
		master := checks.Bytes(chance.Intn, k)
		mac := cmac.Of([16]byte{}, master)
		if same := bytes.Equal(keyOf(t, AES, master, context), keyOf(t, AES, mac[:], context)); same != (k != 16) {
			t.Errorf("master of %d: that its MAC has the same key is %v", k, same)
		}
		seen := map[string]int{}
		for n := k; n <= 80; n++ {
			key := string(keyOf(t, AES, slices.Concat(master, make([]byte, n-k)), context))
			if first, there := seen[key]; there {
				t.Fatalf("master of %d: with bytes 0 up to %d and %d it has one key", k, first, n)
			}
			seen[key] = n
		}
	}
}

// P8.2: each bit of the master key and of the context counts, and so does the algorithm.
func TestEachBitOfKey(t *testing.T) {
	for _, alg := range algs() {
		for _, k := range []int{1, 15, 16, 17, 64, 65, 80} {
			context := checks.Rising(20)
			seen := map[string]int{string(keyOf(t, alg, make([]byte, k), context)): -1}
			for bit := range 8 * k {
				master := make([]byte, k)
				master[bit/8] = 1 << (bit % 8)
				key := string(keyOf(t, alg, master, context))
				if first, there := seen[key]; there {
					t.Fatalf("%d, master of %d: the bits %d and %d have one key", alg, k, first, bit)
				}
				seen[key] = bit
			}
			for bit := range 8 * len(context) {
				context[bit/8] ^= 1 << (bit % 8)
				key := string(keyOf(t, alg, make([]byte, k), context))
				context[bit/8] ^= 1 << (bit % 8)
				if _, there := seen[key]; there {
					t.Fatalf("%d, master of %d: the bit %d of the context has a key that was met", alg, k, bit)
				}
				seen[key] = bit
			}
		}
	}
	for k := 1; k <= 80; k++ {
		master, context := checks.Rising(k), checks.Rising(20)
		if bytes.HasPrefix(keyOf(t, SHA1, master, context), keyOf(t, AES, master, context)) {
			t.Errorf("master of %d: both algorithms have one key", k)
		}
	}
}

// P8.2: a master key of no bytes, or of more than 80: ErrArg; and no algorithm: ErrKind, which is told first.
func TestWrongKeys(t *testing.T) {
	for _, context := range [][]byte{nil, {}, checks.Rising(20), checks.Rising(44)} {
		for _, master := range [][]byte{nil, {}, []byte("key")[3:], make([]byte, 0, 16), make([]byte, 81), checks.Rising(82), checks.Rising(1000), make([]byte, 1<<16+16)} {
			for _, alg := range algs() {
				if got, e := Key(alg, master, context); got != nil || e != api.ErrArg {
					t.Errorf("Key(%d), master of %d: %x, %v", alg, len(master), got, e)
				}
			}
			for _, alg := range checks.NoAlgs() {
				if got, e := Key(alg, master, context); got != nil || e != api.ErrKind {
					t.Errorf("Key(%d), master of %d: %x, %v", alg, len(master), got, e)
				}
			}
		}
		for _, k := range []int{1, 15, 16, 17, 20, 64, 65, 79, 80} {
			for _, alg := range checks.NoAlgs() {
				if got, e := Key(alg, checks.Rising(k), context); got != nil || e != api.ErrKind {
					t.Errorf("Key(%d), master of %d: %x, %v", alg, k, got, e)
				}
			}
			for _, alg := range algs() {
				if got := keyOf(t, alg, checks.Rising(k), context); len(got) != Size(alg) {
					t.Errorf("Key(%d), master of %d: %x", alg, k, got)
				}
			}
		}
	}
}

// P8.2: the MACs of RFC 9235's first Syns: of the turn, the pseudo header and the segment, whose check sum and MAC are 0.
func TestKnownSyns(t *testing.T) {
	turn, pseudo, none := make([]byte, 4), checks.Unhex("0a0b0c0d ac1b1c1d 00 06 0038"), make([]byte, 12)
	for _, c := range []struct {
		alg                int
		key, segment, want string
	}{
		{
			SHA1, "6d63ef1b 02fe1509 d4b14027 07fd7b04 16abb74f",
			"e9d700b3 fbfbab5a 00000000 e002ffff 00000000 020405b4 01030308 0402080a 00155ab7 00000000 1d103d54", "2ee437c6 f8ede6d7 c4d602e7",
		},
		{
			AES, "f5b8b3d5 f34fdbb6 eb8d4ab9 660e60e3",
			"c4fa00b3 787a1ddf 00000000 e002ffff 00000000 020405b4 01030308 0402080a 00017ed0 00000000 1d103d54", "e477e99c 80407654 98e55091",
		},
	} {
		key, segment, want := checks.Unhex(c.key), checks.Unhex(c.segment), [12]byte(checks.Unhex(c.want))
		hold(t, want, c.alg, key, turn, pseudo, segment, none)
		hold(t, want, c.alg, key, slices.Concat(turn, pseudo, segment, none))
	}
}

// P8.2: known MACs, which OpenSSL reckons, of rising bytes by keys of rising bytes.
func TestKnownMACs(t *testing.T) {
	for _, c := range []struct {
		many      int
		sha1, aes string
	}{
		{0, "06e8ad50fc1035823661d979", "97dd6e5a882cbd564c39ae7d"},
		{1, "1e5fd6a5cbc98bd4c1fe20d5", "d78a1663af870e5aeb4d4487"},
		{15, "73967d8dee8ea0761c537b92", "40fb69919e3fc3f445a34234"},
		{16, "e4641600cedd7e12063deaea", "7bcfbbca7a2ea68b966fc539"},
		{17, "7c470478f2cef438e3724ae6", "dbab59423fbec5a7be32c48c"},
		{63, "308410de020d4f0b5102b1a3", "b65ef9d4db3ba2abee1a721b"},
		{64, "70e7ebd13df2fa025ee965c1", "6b00056b615a68d4efa8c2cd"},
		{65, "4832f434e4eaf64cdfd0988e", "499bbdbfad9a439a1f8e1f34"},
		{100, "220e8f20a11ea966f929325b", "830e2f149feccaa3977946ce"},
	} {
		text := checks.Rising(c.many)
		hold(t, [12]byte(checks.Unhex(c.sha1)), SHA1, checks.Rising(20), text)
		hold(t, [12]byte(checks.Unhex(c.aes)), AES, checks.Rising(16), text)
	}
}

// P8.2: a MAC of no bytes, no parts, in every way to have none.
func TestNothing(t *testing.T) {
	for _, alg := range algs() {
		key := checks.Rising(Size(alg))
		want := wantedMAC(alg, key, nil)
		hold(t, want, alg, key)
		for _, parts := range [][][]byte{nil, {}, {nil}, {{}}, {nil, {}, nil}, {[]byte("abc")[3:], make([]byte, 0, 16)}} {
			hold(t, want, alg, key, parts...)
		}
		if got, _ := MAC(alg, key, []byte{0}); got == want {
			t.Errorf("%d: a byte 0 counts as none", alg)
		}
	}
}

// P8.2: parts in one piece, in two at every place, one by one, and cut anywhere, with empty ones among them.
func TestParts(t *testing.T) {
	chance := rand.New(rand.NewSource(86))
	for _, alg := range algs() {
		for _, n := range []int{1, 2, 12, 15, 16, 17, 20, 32, 55, 56, 63, 64, 65, 100, 128} {
			key, b := checks.Bytes(chance.Intn, Size(alg)), checks.Bytes(chance.Intn, n)
			want := wantedMAC(alg, key, b)
			hold(t, want, alg, key, b)
			for at := range n + 1 {
				hold(t, want, alg, key, b[:at], b[at:])
				hold(t, want, alg, key, nil, b[:at], []byte{}, b[at:], nil)
			}
			hold(t, want, alg, key, checks.Single(b)...)
		}
		for range 1000 {
			key, b := checks.Bytes(chance.Intn, Size(alg)), checks.Bytes(chance.Intn, chance.Intn(400))
			hold(t, wantedMAC(alg, key, b), alg, key, checks.Cut(chance.Intn, b)...)
		}
		many := bytes.Repeat([]byte("a"), 100001)
		hold(t, wantedMAC(alg, many[:Size(alg)], many), alg, many[:Size(alg)], checks.Single(many)...)
	}
}

// P8.2: each bit of the key, and where the parts stand, counts; a traffic key is a key of a MAC.
func TestEachBitOfMAC(t *testing.T) {
	for _, alg := range algs() {
		text := checks.Rising(70)
		seen := map[[12]byte]int{wantedMAC(alg, make([]byte, Size(alg)), text): -1}
		for bit := range 8 * Size(alg) {
			key := make([]byte, Size(alg))
			key[bit/8] = 1 << (bit % 8)
			got, e := MAC(alg, key, text[:30], text[30:])
			if first, there := seen[got]; there || e != api.OK {
				t.Fatalf("%d: the bits %d and %d of the key have one MAC, %v", alg, first, bit, e)
			}
			seen[got] = bit
			if other, _ := MAC(alg, key, text[30:], text[:30]); other == got {
				t.Fatalf("%d, bit %d: the order of parts does not count", alg, bit)
			}
		}
		for k := 1; k <= 80; k++ {
			key := keyOf(t, alg, checks.Rising(k), text)
			hold(t, wantedMAC(alg, key, text), alg, key, text)
		}
	}
}

// P8.2: a key of any number of bytes but its size: ErrArg; and no algorithm: ErrKind, which is told first.
func TestWrongMACs(t *testing.T) {
	lists := [][][]byte{nil, {nil}, {checks.Rising(5)}, {checks.Rising(64), nil, checks.Rising(20)}}
	for _, parts := range lists {
		for _, alg := range algs() {
			for k := range 200 {
				got, e := MAC(alg, checks.Rising(k), parts...)
				if fits := k == Size(alg); (e == api.OK) != fits || !fits && (e != api.ErrArg || got != [12]byte{}) {
					t.Errorf("MAC(%d), key of %d: %x, %v", alg, k, got, e)
				}
			}
			for _, key := range [][]byte{nil, {}, make([]byte, 0, Size(alg)), make([]byte, 256+Size(alg)), make([]byte, 1<<16+Size(alg))} {
				if got, e := MAC(alg, key, parts...); got != [12]byte{} || e != api.ErrArg {
					t.Errorf("MAC(%d), key of %d: %x, %v", alg, len(key), got, e)
				}
			}
		}
		for _, alg := range checks.NoAlgs() {
			for _, key := range [][]byte{nil, {}, checks.Rising(1), checks.Rising(15), checks.Rising(16), checks.Rising(20), checks.Rising(100)} {
				if got, e := MAC(alg, key, parts...); got != [12]byte{} || e != api.ErrKind {
					t.Errorf("MAC(%d), key of %d: %x, %v", alg, len(key), got, e)
				}
			}
		}
	}
}

// R3, R7: calls in any order, and again, wrong ones among them, answer the same.
func TestAnyOrder(t *testing.T) {
	chance := rand.New(rand.NewSource(87))
	ways := []way{{}, byChance(chance, 4), byChance(chance, 16), byChance(chance, 16)}
	var masters [][]byte
	for _, k := range []int{1, 15, 16, 17, 20, 64, 65, 80} {
		masters = append(masters, checks.Bytes(chance.Intn, k))
	}
	for range 3000 {
		alg, master, w := algs()[chance.Intn(2)], masters[chance.Intn(len(masters))], ways[chance.Intn(len(ways))]
		switch chance.Intn(4) {
		case 0:
			if got := w.context(t); !bytes.Equal(got, w.spelt()) {
				t.Fatalf("Context(%v) = %x", w, got)
			}
		case 1:
			if got := keyOf(t, alg, master, w.spelt()); !bytes.Equal(got, wanted(alg, master, w.spelt())) {
				t.Fatalf("Key(%d, %x, %x) = %x", alg, master, w.spelt(), got)
			}
		case 2:
			key := wanted(alg, master, w.spelt())
			hold(t, wantedMAC(alg, key, master), alg, key, master)
		case 3:
			_, first := Key(alg+2, master, nil)
			_, second := MAC(alg, append(master, make([]byte, 20)...))
			_, third := Context(ways[1].src, ways[2].dst, 1, 2)
			if first != api.ErrKind || second != api.ErrArg || third != api.ErrArg {
				t.Fatal(first, second, third)
			}
		}
	}
}

// R4: the lists that are handed in stay as they were, also behind their ends; what stands there does not count.
func TestListsStay(t *testing.T) {
	chance := rand.New(rand.NewSource(88))
	all := checks.Bytes(chance.Intn, 500)
	was := slices.Clone(all)
	for _, alg := range algs() {
		for _, k := range []int{1, 15, 16, 17, 20, 64, 65, 79, 80} {
			for _, n := range []int{0, 1, 20, 44, 64, 100} {
				if got := keyOf(t, alg, all[10:10+k], all[200:200+n]); !bytes.Equal(got, wanted(alg, was[10:10+k], was[200:200+n])) {
					t.Fatalf("%d, master of %d, context of %d, with some behind: %x", alg, k, n, got)
				}
				if got := keyOf(t, alg, all[:k], all[:n]); !bytes.Equal(got, wanted(alg, was[:k], was[:n])) {
					t.Fatalf("%d, master of %d, which the context of %d has in it: %x", alg, k, n, got)
				}
				key, text := all[10:10+Size(alg)], all[200:200+n]
				parts := [][]byte{text[:n/2], nil, text[n/2:], {}, key}
				hold(t, wantedMAC(alg, was[10:10+Size(alg)], slices.Concat(was[200:200+n], was[10:10+Size(alg)])), alg, key, parts...)
				if len(parts) != 5 || len(parts[0]) != n/2 || parts[1] != nil || len(parts[2]) != n-n/2 || parts[3] == nil || len(parts[4]) != Size(alg) {
					t.Fatalf("%d, %d bytes: the list of parts was written into", alg, n)
				}
				if !bytes.Equal(all, was) {
					t.Fatalf("%d, master of %d, %d bytes: they were written into", alg, k, n)
				}
			}
		}
	}
}

// R4: what is answered is the caller's, who may write into it, and behind it; and nothing that was handed in is kept.
func TestAnswersAreTheCallers(t *testing.T) {
	chance := rand.New(rand.NewSource(89))
	for _, alg := range algs() {
		for n, k := range []int{1, 16, 20, 64, 65, 80} {
			master := checks.Bytes(chance.Intn, k)
			kept, w := slices.Clone(master), byChance(chance, []int{4, 16}[n%2])
			context, other := w.context(t), w.context(t)
			key, again := keyOf(t, alg, master, context), keyOf(t, alg, master, context)
			clear(context[:cap(context)])
			clear(key[:cap(key)])
			clear(master)
			if !bytes.Equal(other, w.spelt()) || !bytes.Equal(w.context(t), w.spelt()) {
				t.Fatalf("%v: %x, and anew %x", w, other, w.context(t))
			}
			want := wanted(alg, kept, w.spelt())
			if !bytes.Equal(again, want) || !bytes.Equal(keyOf(t, alg, kept, other), want) {
				t.Fatalf("%d, master %x, context %x: %x, and anew %x", alg, kept, other, again, keyOf(t, alg, kept, other))
			}
			if got := keyOf(t, alg, master, context); !bytes.Equal(got, wanted(alg, make([]byte, k), make([]byte, len(context)))) {
				t.Fatalf("%d, bytes 0 where others stood: %x", alg, got)
			}
			mac, _ := MAC(alg, again, kept)
			clear(mac[:])
			hold(t, wantedMAC(alg, want, kept), alg, again, kept)
			clear(again)
			hold(t, wantedMAC(alg, make([]byte, Size(alg)), kept), alg, again, kept)
		}
	}
}
