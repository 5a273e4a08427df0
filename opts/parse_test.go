package opts

import (
	"bytes"
	"encoding/binary"
	"math/rand"
	"slices"
	"strings"
	"testing"

	"downhaul/api"
	"downhaul/checks"
)

// lengths are how many bytes options have, by their kinds: those that tell something.
func lengths() map[byte][]int {
	return map[byte][]int{2: {4}, 3: {3}, 4: {2}, 5: {10, 18, 26, 34}, 8: {10}, 29: {16}}
}

// wanted are the options of bytes by the chapter's words.
func wanted(b []byte) (api.Opts, api.Errno) {
	if len(b) > 40 {
		return api.Opts{}, api.ErrForm
	}
	var o api.Opts
	seen := map[byte]bool{}
	for at := 0; at < len(b) && b[at] != 0; {
		kind := b[at]
		if kind == 1 {
			at++
			continue
		}
		if at+1 == len(b) || b[at+1] < 2 || at+int(b[at+1]) > len(b) {
			return api.Opts{}, api.ErrForm
		}
		body := b[at+2 : at+int(b[at+1])]
		at += 2 + len(body)
		if lengths()[kind] == nil {
			continue
		}
		if !slices.Contains(lengths()[kind], 2+len(body)) {
			return api.Opts{}, api.ErrForm
		}
		if seen[kind] {
			return api.Opts{}, api.ErrThere
		}
		seen[kind] = true
		lay(&o, kind, body)
	}
	return o, api.OK
}

// lay adds to options what one tells of that kind, that may be.
func lay(o *api.Opts, kind byte, body []byte) {
	switch kind {
	case 2:
		o.HasMSS, o.MSS = true, binary.BigEndian.Uint16(body)
	case 3:
		o.HasScale, o.Scale = true, min(body[0], 14)
	case 4:
		o.SackOK = true
	case 5:
		for ; len(body) > 0; body = body[8:] {
			o.Sacks = append(o.Sacks, api.Block{Left: binary.BigEndian.Uint32(body), Right: binary.BigEndian.Uint32(body[4:])})
		}
	case 8:
		o.HasTime, o.Val, o.Echo = true, binary.BigEndian.Uint32(body), binary.BigEndian.Uint32(body[4:])
	case 29:
		o.HasAO, o.KeyID, o.NextID = true, body[0], body[1]
		copy(o.MAC[:], body[2:])
	}
}

// parsed are the options of bytes that must be some.
func parsed(t *testing.T, b []byte) api.Opts {
	t.Helper()
	o, e := Parse(b)
	if e != api.OK {
		t.Fatalf("Parse(%x): %v", b, e)
	}
	return o
}

// refuse holds that bytes are told an error of, and nothing besides.
func refuse(t *testing.T, what string, b []byte, want api.Errno) {
	t.Helper()
	if o, e := Parse(b); e != want || !alike(o, api.Opts{}) {
		t.Errorf("%s: Parse(%x) = %s, %v, not %v", what, b[:min(len(b), 60)], short(o), e, want)
	}
}

// checked holds that bytes are parsed as by the chapter's words, and that what is parsed may be and is laid as options that are parsed as it; it is the error.
func checked(t *testing.T, b []byte) api.Errno {
	t.Helper()
	got, e := Parse(b)
	want, f := wanted(b)
	if e != f || !alike(got, want) {
		t.Fatalf("Parse(%x) = %s, %v, not %s, %v", b, short(got), e, short(want), f)
	}
	if e == api.OK && (!May(got) || !alike(parsed(t, laid(t, got)), got)) {
		t.Fatalf("Parse(%x) = %s; May %t", b, short(got), May(got))
	}
	return e
}

// option are the bytes of an option of a kind, of n bytes in all, which are none of an end or a filler.
func option(kind byte, n int) []byte {
	b := append([]byte{kind, byte(n)}, checks.Rising(max(n-2, 0))...)
	for i := 2; i < len(b); i++ {
		b[i] += 0x60
	}
	return b[:max(n, 2)]
}

// good are options that may be, one each: of each kind and length, as bytes.
func good() [][]byte {
	var out [][]byte
	for _, kind := range []byte{2, 3, 4, 5, 8, 29} {
		for _, n := range lengths()[kind] {
			out = append(out, option(kind, n))
		}
	}
	return out
}

// P12.2: known bytes: others' orders, with fillers between, and options that are gone past.
func TestKnownOptions(t *testing.T) {
	for _, c := range []struct {
		b    string
		want api.Opts
	}{
		{"", api.Opts{}},
		{"020405b4", api.Opts{HasMSS: true, MSS: 1460}},
		{"01 01 080a 00155abd 00155ab7", api.Opts{HasTime: true, Val: 0x155ABD, Echo: 0x155AB7}},
		{"020405b4 01 030308 0402 080a00155ab700000000 1d103d542ee437c6f8ede6d7c4d602e7", api.Opts{
			HasMSS: true, MSS: 1460, HasScale: true, Scale: 8, SackOK: true, HasTime: true, Val: 0x155AB7,
			HasAO: true, KeyID: 61, NextID: 84, MAC: [12]byte{0x2E, 0xE4, 0x37, 0xC6, 0xF8, 0xED, 0xE6, 0xD7, 0xC4, 0xD6, 2, 0xE7},
		}},
		{"020405b4 0402 080a0011223300000000 01 030307", api.Opts{HasMSS: true, MSS: 1460, SackOK: true, HasTime: true, Val: 0x112233, HasScale: true, Scale: 7}},
		{"01 01 050a ffffff00 00000100", api.Opts{Sacks: []api.Block{{Left: 0xFFFFFF00, Right: 0x100}}}},
		{"0101 0522 00000001000000020000000300000004000000050000000600000007 00000008 0402", api.Opts{SackOK: true, Sacks: []api.Block{{Left: 1, Right: 2}, {Left: 3, Right: 4}, {Left: 5, Right: 6}, {Left: 7, Right: 8}}}},
		{"1312" + strings.Repeat("22", 16) + "0402", api.Opts{SackOK: true}}, // a MAC of another kind is gone past
		{"2202 fe0405b4 02040000", api.Opts{HasMSS: true}},
	} {
		b := checks.Unhex(c.b)
		if got := parsed(t, b); !alike(got, c.want) {
			t.Errorf("%x is parsed as %s", b, short(got))
		}
	}
}

// P12.2, P12.4: what is laid is parsed, with fillers ahead, and with an end and anything behind.
func TestLaidIsParsed(t *testing.T) {
	chance := rand.New(rand.NewSource(125))
	many := 0
	for _, o := range tried(chance, 20000) {
		if !may(o) {
			continue
		}
		many++
		b := laid(t, o)
		if got := parsed(t, b); !alike(got, o) || !Same(got, o) {
			t.Fatalf("%s is parsed as %s", short(o), short(got))
		}
		room := 40 - len(b)
		for n := range room + 1 {
			ahead := bytes.Repeat([]byte{1}, n)
			if got := parsed(t, append(ahead, b...)); !alike(got, o) {
				t.Fatalf("%s, behind %d fillers, is parsed as %s", short(o), n, short(got))
			}
			end := append([]byte{0}, checks.Bytes(chance.Intn, 40)...)
			if got := parsed(t, append(slices.Clone(b), end[:n]...)); !alike(got, o) {
				t.Fatalf("%s, ahead of %x, is parsed as %s", short(o), end[:n], short(got))
			}
		}
	}
	if many < 5000 {
		t.Error(many)
	}
}

// P12.2: 0 ends them, at the beginning, in the midst and at the end, whatever stands behind it: also what may not stand elsewhere.
func TestEnd(t *testing.T) {
	begins := [][]byte{nil, {1}, {1, 1, 1}, option(4, 2), option(2, 4), option(254, 5), slices.Concat(option(4, 2), []byte{1}, option(3, 3))}
	behinds := [][]byte{nil, {0}, {1}, {2}, {2, 0}, {5, 2}, {29, 255}, {4, 2}, {4, 2, 4, 2}, option(3, 4), option(2, 4), option(29, 16), bytes.Repeat([]byte{255}, 29), make([]byte, 29)}
	for _, begin := range begins {
		want := parsed(t, begin)
		for _, behind := range behinds {
			b := slices.Concat(begin, []byte{0}, behind)
			if got := parsed(t, b); !alike(got, want) {
				t.Errorf("%x is parsed as %s", b, short(got))
			}
			checked(t, b)
		}
	}
	// In an option it ends nothing.
	for _, g := range good() {
		b := append(slices.Clone(g[:2]), make([]byte, len(g)-2)...)
		if got, want := parsed(t, slices.Concat(b, option(254, 2))), parsed(t, b); !alike(got, want) || alike(got, api.Opts{}) {
			t.Errorf("%x is parsed as %s", b, short(got))
		}
	}
	if got := parsed(t, []byte{254, 5, 0, 0, 0, 4, 2}); !alike(got, api.Opts{SackOK: true}) {
		t.Error(short(got))
	}
}

// P12.2: 1 is gone past: alone, between options, and behind them, any number of times.
func TestFillers(t *testing.T) {
	for n := range 41 {
		if got := parsed(t, bytes.Repeat([]byte{1}, n)); !alike(got, api.Opts{}) {
			t.Errorf("%d fillers: %s", n, short(got))
		}
	}
	p := checks.Kinds()
	want := checks.With(api.Opts{}, p[0], p[1], p[2], p[3])
	pieces := [][]byte{{2, 4, 5, 180}, {3, 3, 7}, {4, 2}, {8, 10, 1, 2, 3, 4, 255, 238, 221, 204}}
	for n := range 5 {
		fill := bytes.Repeat([]byte{1}, n)
		var b []byte
		for _, x := range pieces {
			b = slices.Concat(b, fill, x)
		}
		b = append(b, fill...)
		if len(b) > 40 {
			b = b[:40]
		}
		if got := parsed(t, b); !alike(got, want) {
			t.Errorf("%x is parsed as %s", b, short(got))
		}
	}
	// In an option it is no filler.
	if got := parsed(t, []byte{1, 2, 4, 1, 1, 1, 5, 10, 1, 1, 1, 1, 1, 1, 1, 1, 1}); !alike(got, api.Opts{HasMSS: true, MSS: 257, Sacks: []api.Block{{Left: 0x01010101, Right: 0x01010101}}}) {
		t.Error(short(got))
	}
}

// P12.2: options in any order.
func TestAnyOrderOfOptions(t *testing.T) {
	chance := rand.New(rand.NewSource(126))
	for _, o := range edges() {
		var pieces [][]byte
		for _, one := range []api.Opts{
			{HasMSS: o.HasMSS, MSS: o.MSS}, {HasScale: o.HasScale, Scale: o.Scale}, {SackOK: o.SackOK}, {Sacks: o.Sacks},
			{HasTime: o.HasTime, Val: o.Val, Echo: o.Echo}, {HasAO: o.HasAO, KeyID: o.KeyID, NextID: o.NextID, MAC: o.MAC},
		} {
			if b := checks.OptionBytes(one); len(b) > 0 {
				pieces = append(pieces, b[:b[1]])
			}
		}
		for range 20 {
			chance.Shuffle(len(pieces), func(i, j int) { pieces[i], pieces[j] = pieces[j], pieces[i] })
			if got := parsed(t, slices.Concat(pieces...)); !alike(got, o) {
				t.Fatalf("%x is parsed as %s", slices.Concat(pieces...), short(got))
			}
		}
	}
}

// P12.2: options of other kinds are gone past: each kind, of two bytes to forty, alone, twice, and between others.
func TestOtherKinds(t *testing.T) {
	for k := 2; k < 256; k++ {
		kind := byte(k)
		if lengths()[kind] != nil {
			continue
		}
		for n := 2; n <= 40; n++ {
			x := option(kind, n)
			if got := parsed(t, x); !alike(got, api.Opts{}) {
				t.Fatalf("%x is parsed as %s", x, short(got))
			}
			for _, b := range [][]byte{slices.Concat(option(4, 2), x, option(2, 4)), slices.Concat(x, option(4, 2), x, option(2, 4)), slices.Concat(option(4, 2), x, x, option(2, 4))} {
				if len(b) > 40 {
					refuse(t, "more than 40 bytes", b, api.ErrForm)
				} else if got := parsed(t, b); !alike(got, api.Opts{SackOK: true, HasMSS: true, MSS: 0x6061}) {
					t.Fatalf("%x is parsed as %s", b, short(got))
				}
			}
			if n <= 20 {
				if got := parsed(t, slices.Concat(x, x)); !alike(got, api.Opts{}) {
					t.Fatalf("%x, twice, is parsed as %s", x, short(got))
				}
			}
			refuse(t, "another kind, not whole", x[:n-1], api.ErrForm)
		}
		refuse(t, "another kind, of no length", []byte{kind}, api.ErrForm)
		refuse(t, "another kind, of length 0", append([]byte{kind, 0}, make([]byte, 9)...), api.ErrForm)
		refuse(t, "another kind, of length 1", append([]byte{kind, 1}, make([]byte, 9)...), api.ErrForm)
	}
}

// P12.2: a Scale above 14 is 14.
func TestScales(t *testing.T) {
	for n := range 256 {
		want := min(n, 14)
		for _, b := range [][]byte{{3, 3, byte(n)}, {1, 3, 3, byte(n), 0}, {4, 2, 3, 3, byte(n), 254, 2}} {
			got := parsed(t, b)
			if !got.HasScale || int(got.Scale) != want || !May(got) || got.SackOK != (b[0] == 4) {
				t.Errorf("%x is parsed as %s", b, short(got))
			}
		}
	}
}

// P12.2: no more than 40 bytes: 40 are parsed, 41 and more are not, whatever they are.
func TestMostBytes(t *testing.T) {
	if got := parsed(t, make([]byte, 40)); !alike(got, api.Opts{}) {
		t.Error(short(got))
	}
	just := slices.Concat(option(2, 4), option(4, 2), option(5, 34))
	if got := parsed(t, just); len(got.Sacks) != 4 || !got.HasMSS || !got.SackOK || len(just) != 40 {
		t.Error(short(got))
	}
	for _, n := range []int{41, 42, 43, 44, 48, 60, 64, 255, 256, 296, 1 << 16, 1 << 20} {
		refuse(t, "too many bytes 0", make([]byte, n), api.ErrForm)
		refuse(t, "too many fillers", bytes.Repeat([]byte{1}, n), api.ErrForm)
		refuse(t, "too many bytes 2", bytes.Repeat([]byte{2}, n), api.ErrForm)
		refuse(t, "options, filled up to too many bytes", append(slices.Clone(just), make([]byte, n-40)...), api.ErrForm)
		refuse(t, "options twice, and too many bytes", append([]byte{4, 2, 4, 2}, make([]byte, n-4)...), api.ErrForm)
	}
	refuse(t, "five Sacks", option(5, 42), api.ErrForm)
	refuse(t, "the kind of another one, of 41 bytes", option(254, 41), api.ErrForm)
}

// P12.2: options that are not whole: with no byte that tells how many it has, with 0 or 1, or with more than there are.
func TestNotWhole(t *testing.T) {
	begins := [][]byte{nil, {1}, option(254, 3), option(254, 30), bytes.Repeat([]byte{1}, 39), option(254, 39)}
	for _, begin := range begins {
		for k := 2; k < 256; k++ {
			kind := byte(k)
			refuse(t, "no length", append(slices.Clone(begin), kind), api.ErrForm)
			for _, n := range []byte{0, 1} {
				for _, behind := range []int{0, 1, 8} {
					refuse(t, "a length of 0, or 1", slices.Concat(begin, []byte{kind, n}, make([]byte, behind)), api.ErrForm)
				}
			}
			for there := range 39 {
				for _, n := range []int{there + 3, there + 4, 41, 42, 255} {
					refuse(t, "a length of more than there are", slices.Concat(begin, []byte{kind, byte(max(n, there+3))}, bytes.Repeat([]byte{1}, there)), api.ErrForm)
				}
			}
		}
	}
	for _, g := range good() {
		for n := 1; n < len(g); n++ {
			refuse(t, "an option that is cut off", g[:n], api.ErrForm)
			refuse(t, "an option that is cut off, behind another", append(option(254, 4), g[:n]...), api.ErrForm)
		}
	}
}

// P12.2: each kind with each length that is not its own.
func TestLengths(t *testing.T) {
	for kind, own := range lengths() {
		for n := range 39 {
			b := option(kind, n)
			for _, text := range [][]byte{b, slices.Concat(b, []byte{0, 0}), slices.Concat([]byte{1}, b, []byte{1}), slices.Concat(bytes.Repeat([]byte{1}, 40-len(b)), b)} {
				if slices.Contains(own, n) {
					if e := checked(t, text); e != api.OK {
						t.Errorf("%x: %v", text, e)
					}
				} else {
					refuse(t, "a length that is not its own", text, api.ErrForm)
				}
			}
		}
		// With just as many bytes of it, whatever stands behind.
		for _, n := range own {
			for behind := range 40 - n + 1 {
				if e := checked(t, append(option(kind, n), bytes.Repeat([]byte{1}, behind)...)); e != api.OK {
					t.Errorf("%d, %d, %d behind: %v", kind, n, behind, e)
				}
			}
		}
	}
}

// P12.2: each kind and each length, with each number of bytes behind, by the chapter's words.
func TestEachLength(t *testing.T) {
	many := map[api.Errno]int{}
	for kind := range 256 {
		for n := range 256 {
			for _, size := range []int{2, 3, 4, 5, 9, 10, 11, 15, 16, 17, 18, 26, 33, 34, 35, 39, 40, 41} {
				b := bytes.Repeat([]byte{1}, size)
				b[0], b[1] = byte(kind), byte(n)
				many[checked(t, b)]++
			}
		}
	}
	if many[api.OK] < 1000 || many[api.ErrForm] < 1000 || many[api.ErrThere] != 0 {
		t.Error(many)
	}
}

// P12.2, P12.5: no option is told twice: next to each other and with others between, with the same bytes and with other ones.
func TestTwice(t *testing.T) {
	many := 0
	for _, first := range good() {
		for _, second := range good() {
			if first[0] != second[0] {
				continue
			}
			other := slices.Clone(second)
			for i := 2; i < len(other); i++ {
				other[i] ^= 0x11
			}
			blank := append(slices.Clone(second[:2]), make([]byte, len(second)-2)...)
			for _, again := range [][]byte{second, other, blank} {
				for _, between := range [][]byte{nil, {1}, {1, 1, 1, 1}, option(254, 2), option(2, 4), option(3, 3), option(4, 2)} {
					if len(between) > 0 && between[0] == first[0] {
						continue
					}
					b := slices.Concat(first, between, again)
					if len(b) > 40 {
						refuse(t, "more than 40 bytes", b, api.ErrForm)
						continue
					}
					many++
					refuse(t, "an option that was there", b, api.ErrThere)
					if len(b) < 39 {
						refuse(t, "an option that was there, and an end", append(b, 0, 0), api.ErrThere)
						refuse(t, "an option that was there, and one that is not whole", append(b, 8), api.ErrThere)
					}
					if got, want := parsed(t, slices.Concat(first, between, []byte{0}, again)[:min(len(b)+1, 40)]), parsed(t, append(slices.Clone(first), between...)); !alike(got, want) {
						t.Errorf("%x, with an end between, is parsed as %s", b, short(got))
					}
				}
			}
		}
	}
	if many < 150 {
		t.Error(many)
	}
	// The same bytes, as the third one, and all that may be there twice.
	refuse(t, "twice two", slices.Concat(option(2, 4), option(3, 3), option(2, 4), option(3, 3)), api.ErrThere)
	refuse(t, "the third one", slices.Concat(option(4, 2), option(3, 3), option(3, 3)), api.ErrThere)
	refuse(t, "a Scale that is lessened", []byte{3, 3, 255, 3, 3, 14}, api.ErrThere)
	refuse(t, "an MSS of 0", []byte{2, 4, 0, 0, 2, 4, 0, 0}, api.ErrThere)
}

// P12.2: where more than one error holds, that of the first option that has one is told, and of one option the first that the chapter lists.
func TestFirstError(t *testing.T) {
	for _, c := range []struct {
		what string
		b    string
		want api.Errno
	}{
		{"there, then a length of 0", "0402 0402 0300", api.ErrThere},
		{"a length of 0, then there", "0402 0300 0402", api.ErrForm},
		{"there, then not whole", "0402 0402 0305", api.ErrThere},
		{"not whole, then there", "0402 0309 0402", api.ErrForm},
		{"a length that is not its own, then there", "0402 030401 0402", api.ErrForm},
		{"there, then a length that is not its own", "0402 0402 03040101", api.ErrThere},
		{"there, with a length of 0", "020405b4 0200", api.ErrForm},
		{"there, with a length of 1", "020405b4 0201", api.ErrForm},
		{"there, without a length", "020405b4 02", api.ErrForm},
		{"there, and not whole", "020405b4 020405", api.ErrForm},
		{"there, with a length that is not its own", "020405b4 020305", api.ErrForm},
		{"there, with another one that is not its own", "0402 040301", api.ErrForm},
		{"Sacks there, and none", "050a0000000000000000 0502", api.ErrForm},
		{"Sacks there, and half of one", "050a0000000000000000 050600000000", api.ErrForm},
		{"AO there, and one that is too short", "1d100000000000000000000000000000 1d0f00000000000000000000000000", api.ErrForm},
		{"there, behind an end", "0402 00 0402", api.OK},
		{"no length, behind an end", "0402 00 03", api.OK},
		{"there, and too many bytes", "0402 0402 0000000000000000000000000000000000000000000000000000000000000000000000000000", api.ErrForm},
	} {
		b := checks.Unhex(c.b)
		if e := checked(t, b); e != c.want {
			t.Errorf("%s: Parse(%x): %v, not %v", c.what, b, e, c.want)
		}
	}
}

// P12.2, P12.5: all short bytes of some numbers.
func TestAllShortBytes(t *testing.T) {
	letters := []byte{0, 1, 2, 3, 4, 5, 8, 29, 10, 254}
	many := map[api.Errno]int{}
	for size := range 6 {
		b := make([]byte, size)
		total := 1
		for range size {
			total *= len(letters)
		}
		for n := range total {
			for i := range b {
				b[i] = letters[n%len(letters)]
				n /= len(letters)
			}
			many[checked(t, b)]++
		}
	}
	if many[api.OK] < 10000 || many[api.ErrForm] < 10000 || many[api.ErrThere] < 10 {
		t.Error(many)
	}
}

// someBytes are bytes by chance: options, right and wrong ones, one behind the other.
func someBytes(chance *rand.Rand) []byte {
	if chance.Intn(10) == 0 {
		return checks.Bytes(chance.Intn, chance.Intn(44))
	}
	all := good()
	var b []byte
	for range chance.Intn(8) {
		switch chance.Intn(24) {
		case 0:
			b = append(b, 0)
		case 1, 2, 3:
			b = append(b, 1)
		case 4:
			b = append(b, option(all[chance.Intn(len(all))][0], chance.Intn(38))...)
		case 5, 6, 7:
			b = append(b, option(byte(chance.Intn(256)), 2+chance.Intn(5))...)
		case 8:
			b = append(b, byte(chance.Intn(256)))
		default:
			one := slices.Clone(all[chance.Intn(len(all))])
			copy(one[2:], checks.Bytes(chance.Intn, len(one)-2))
			b = append(b, one...)
		}
	}
	if len(b) > 40 && chance.Intn(8) != 0 {
		b = b[:40]
	}
	return b[:len(b)-chance.Intn(min(len(b), 3)+1)/2]
}

// R1, P12.2, P12.5: options by chance: they are parsed as the chapter's words tell; what is parsed may be, and is laid as options that are parsed as it.
func TestBytesByChance(t *testing.T) {
	chance := rand.New(rand.NewSource(127))
	many := map[api.Errno]int{}
	for range 300000 {
		many[checked(t, someBytes(chance))]++
	}
	for _, e := range []api.Errno{api.OK, api.ErrForm, api.ErrThere} {
		if many[e] < 10000 {
			t.Errorf("%v: only %d", e, many[e])
		}
	}
}
