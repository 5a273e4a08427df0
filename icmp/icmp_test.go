package icmp

import (
	"bytes"
	"encoding/binary"
	"fmt"
	"math"
	"math/rand"
	"reflect"
	"slices"
	"testing"

	"downhaul/addr"
	"downhaul/api"
	"downhaul/checks"
	"downhaul/chksum"
)

// sizes are how many bytes of data there may be, at which something turns, and some between.
func sizes() []int {
	return []int{0, 1, 2, 3, 7, 8, 9, 56, 57, 547, 548, 549, 1231, 1232, 1233, 1392, 1399, 1400}
}

// of is a message of a kind that may be, of IPv4 and of IPv6, with all that counts, and that data.
func of(kind int, data ...byte) Msg {
	m := Msg{Kind: kind, Data: data}
	switch kind {
	case 1, 2:
		m.Id, m.Seq = 0x1234, 0xFEDC
	case 3, 5:
		m.Code = 13
	case 4:
		m.MTU = 1280
	}
	return m
}

// sized is a message of a kind with n bytes of data.
func sized(kind, n int) Msg { return of(kind, checks.Rising(n)...) }

// coded is a message with a Code.
func coded(code uint8, m Msg) Msg { return checks.With(m, func(m *Msg) { m.Code = code }) }

// limited is a message with an MTU.
func limited(mtu uint32, m Msg) Msg { return checks.With(m, func(m *Msg) { m.MTU = mtu }) }

// numbered is a message with an Id and a Seq.
func numbered(id, seq uint16, m Msg) Msg {
	return checks.With(m, func(m *Msg) { m.Id, m.Seq = id, seq })
}

// counted are messages of a kind, each field that counts at its ends, and some between; the Code 4 of an Unreachable of IPv4 stands elsewhere.
func counted(m Msg, six bool) []Msg {
	var out []Msg
	switch m.Kind {
	case 1, 2:
		for _, n := range []uint16{0, 1, 255, 256, 1<<15 - 1, 1 << 15, math.MaxUint16 - 1, math.MaxUint16} {
			out = append(out, numbered(n, m.Seq, m), numbered(m.Id, n, m), numbered(n, n, m), numbered(n, 0, m), numbered(0, n, m))
		}
	case 3, 5:
		for n := range 256 {
			if six || m.Kind == 5 || n != 4 {
				out = append(out, coded(uint8(n), m))
			}
		}
	case 4:
		for _, n := range []uint32{0, 1, 68, 255, 256, 576, 1280, 1<<15 - 1, 1 << 15, math.MaxUint16 - 1, math.MaxUint16, 1 << 16, 1<<16 + 1, 1 << 24, 1<<31 - 1, 1 << 31, math.MaxUint32 - 1, math.MaxUint32} {
			if six || n < 1<<16 {
				out = append(out, limited(n, m))
			}
		}
	}
	return out
}

// edges are messages that may be, and are laid: of each kind, data of all sizes, and what counts at its ends.
func edges(six bool) []Msg {
	var out []Msg
	for kind := 1; kind <= 5; kind++ {
		for _, n := range sizes() {
			out = append(out, sized(kind, n), Msg{Kind: kind, Data: bytes.Repeat([]byte{255}, n)}, Msg{Kind: kind, Data: make([]byte, n)})
		}
		for _, m := range []Msg{{Kind: kind}, {Kind: kind, Data: []byte{}}, sized(kind, 1), sized(kind, 6)} {
			out = append(out, counted(m, six)...)
		}
		for _, m := range counted(Msg{Kind: kind}, six) {
			m.Data = checks.Rising(1400)
			out = append(out, m)
		}
	}
	return out
}

// strays are messages of a kind with one field that does not count, which is not 0.
func strays(m Msg) []Msg {
	var out []Msg
	for bit := range 16 {
		if m.Kind > 2 {
			out = append(out, checks.With(m, func(m *Msg) { m.Id = 1 << bit }), checks.With(m, func(m *Msg) { m.Seq = 1 << bit }))
		}
		if m.Kind != 4 {
			out = append(out, limited(1<<bit, m), limited(1<<(bit+16), m))
		}
		if m.Kind != 3 && m.Kind != 5 {
			out = append(out, coded(1<<(bit%8), m))
		}
	}
	if m.Kind > 2 {
		out = append(out, numbered(math.MaxUint16, math.MaxUint16, m))
	}
	if m.Kind == 4 {
		out = append(out, coded(4, m), coded(255, m))
	}
	return out
}

// kinds are numbers that no kind has.
func kinds() []int {
	return []int{0, 6, 7, 8, 11, 58, 128, 129, 255, 256, 257, 260, 1<<16 + 1, 1<<32 + 1, 1<<32 + 3, math.MaxInt, -1, -2, -5, -255, -256, math.MinInt, math.MinInt + 1}
}

// wrongs are messages that may not be, each for one reason.
func wrongs(six bool) []Msg {
	var out []Msg
	for _, kind := range kinds() {
		out = append(out, Msg{Kind: kind}, sized(kind, 3), sized(kind, 1400))
	}
	for kind := 1; kind <= 5; kind++ {
		for _, m := range []Msg{{Kind: kind}, sized(kind, 5), sized(kind, 1400)} {
			out = append(out, strays(m)...)
		}
		for _, n := range []int{1401, 1402, 1500, 2800, 32768, 65527, 65528, 65535, 65536, 65537, 1<<16 + 1400, 1 << 18} {
			out = append(out, Msg{Kind: kind, Data: make([]byte, n)}, sized(kind, n))
		}
	}
	for _, n := range []uint32{1 << 16, 1<<16 + 1, 1<<16 + 1280, 1 << 17, 1 << 24, 1 << 31, math.MaxUint32} {
		if !six {
			out = append(out, limited(n, Msg{Kind: 4}), limited(n, sized(4, 5)))
		}
	}
	return out
}

// may tells by the chapter's words whether a message may be.
func may(m Msg, six bool) bool {
	size := len(m.Data)
	if size > 1400 || !six && m.MTU > 65535 {
		return false
	}
	rest := m
	rest.Kind, rest.Data = 0, nil
	switch m.Kind {
	case 1, 2:
		rest.Id, rest.Seq = 0, 0
	case 3, 5:
		rest.Code = 0
	case 4:
		rest.MTU = 0
	default:
		return false
	}
	return reflect.DeepEqual(rest, Msg{})
}

// sum is the sum of bytes between two addresses: of IPv6 with the pseudo header of 58.
func sum(w checks.Way, b []byte) uint16 {
	if w.Src.Six {
		return w.Sum(58, b)
	}
	return checks.Sum(b)
}

// summed are bytes with the check sum that fits at its place.
func summed(w checks.Way, b []byte) []byte {
	copy(b[2:], []byte{0, 0})
	binary.BigEndian.PutUint16(b[2:], ^sum(w, b))
	return b
}

// spelt are the bytes of a message by the chapter's words.
func spelt(w checks.Way, m Msg) []byte {
	row := [][2]byte{{}, {8, 128}, {0, 129}, {3, 1}, {3, 2}, {11, 3}}[m.Kind]
	b := []byte{row[0], m.Code, 0, 0, 0, 0, 0, 0}
	switch {
	case w.Src.Six:
		b[0] = row[1]
	case m.Kind == 4:
		b[1] = 4
	}
	switch m.Kind {
	case 1, 2:
		binary.BigEndian.PutUint16(b[4:], m.Id)
		binary.BigEndian.PutUint16(b[6:], m.Seq)
	case 4:
		binary.BigEndian.PutUint32(b[4:], m.MTU)
	}
	return summed(w, slices.Concat(b, m.Data))
}

// laid are the bytes of a message that must have some.
func laid(t *testing.T, w checks.Way, m Msg) []byte {
	t.Helper()
	b, e := Lay(m, w.Src, w.Dst)
	if e != api.OK {
		t.Fatalf("Lay(%s): %v", brief(m), e)
	}
	return b
}

// alike tells whether messages are the same: no data is the same as data of length 0.
func alike(a, b Msg) bool {
	same := bytes.Equal(a.Data, b.Data)
	a.Data, b.Data = nil, nil
	return same && reflect.DeepEqual(a, b)
}

// copied is a message whose data is its own.
func copied(m Msg) Msg {
	m.Data = slices.Clone(m.Data)
	return m
}

// brief is a message as a text, with no more of its data than the beginning.
func brief(m Msg) string {
	size := len(m.Data)
	m.Data = m.Data[:min(size, 40)]
	return fmt.Sprintf("%+v (%d bytes)", m, size)
}

// byChance is a message by chance that may be, and is laid, with at most most bytes of data.
func byChance(chance *rand.Rand, six bool, most int) Msg {
	list := counted(Msg{Kind: 1 + chance.Intn(5)}, six)
	m := list[chance.Intn(len(list))]
	if m.Kind < 3 {
		m = numbered(uint16(chance.Uint32()), uint16(chance.Uint32()), m)
	}
	m.Data = checks.Bytes(chance.Intn, chance.Intn(most+1))
	return m
}

// tried are messages that may be, and are laid: the edges, and n by chance.
func tried(chance *rand.Rand, six bool, n int) []Msg {
	list := edges(six)
	for range n {
		list = append(list, byChance(chance, six, 200))
	}
	return list
}

// example is a message, and its bytes between two addresses.
type example struct {
	w    checks.Way
	m    Msg
	want string
}

// examples are messages, and their bytes, reckoned by another program; the first is the chapter's.
func examples() []example {
	four := checks.FromTo(addr.Four(10, 0, 0, 1), addr.Four(10, 0, 0, 2))
	six := checks.FromTo(addr.Six(0x2001, 0xDB8, 0, 0, 0, 0, 0, 1), addr.Six(0xFE80, 0, 0, 0, 0, 0, 0, 2))
	return []example{
		{four, Msg{Kind: 1, Id: 1, Seq: 2}, "0800f7fc 00010002"},
		{four, Msg{Kind: 1, Id: 0x1234, Seq: 65535, Data: []byte("hello")}, "0800a1f9 1234ffff 68656c6c6f"},
		{four, Msg{Kind: 2}, "0000ffff 00000000"},
		{four, Msg{Kind: 2, Id: 65535, Seq: 65535, Data: []byte{255}}, "000000ff ffffffff ff"},
		{four, Msg{Kind: 3, Code: 3, Data: []byte{0x45, 0, 0, 0x1C}}, "0303b7e0 00000000 4500001c"},
		{four, Msg{Kind: 3, Code: 255}, "03fffc00 00000000"},
		{four, Msg{Kind: 4, MTU: 1280, Data: []byte("abc")}, "03043399 00000500 616263"},
		{four, Msg{Kind: 4, MTU: 1280, Data: []byte("E")}, "0304b2fb 00000500 45"},
		{four, Msg{Kind: 4, MTU: 65535}, "0304fcfb 0000ffff"},
		{four, Msg{Kind: 4}, "0304fcfb 00000000"},
		{four, Msg{Kind: 5, Code: 1, Data: []byte{1, 2, 3, 4, 5, 6, 7}}, "0b01e4f2 00000000 01020304050607"},
		{four, Msg{Kind: 5}, "0b00f4ff 00000000"},
		{four, Msg{Kind: 5, Code: 4}, "0b04f4fb 00000000"},
		{six, Msg{Kind: 1, Id: 1, Seq: 2}, "8000537d 00010002"},
		{six, Msg{Kind: 1, Id: 0x1234, Seq: 65535, Data: []byte("hello")}, "8000fd74 1234ffff 68656c6c6f"},
		{six, Msg{Kind: 2}, "81005280 00000000"},
		{six, Msg{Kind: 2, Id: 65535, Seq: 65535, Data: []byte{255}}, "8100537e ffffffff ff"},
		{six, Msg{Kind: 3, Code: 3, Data: []byte{0x45, 0, 0, 0x1C}}, "01038d5d 00000000 4500001c"},
		{six, Msg{Kind: 3, Code: 4, Data: []byte("ab")}, "01047118 00000000 6162"},
		{six, Msg{Kind: 3, Code: 255}, "01ffd181 00000000"},
		{six, Msg{Kind: 4, MTU: 1280, Data: []byte("abc")}, "0200081b 00000500 616263"},
		{six, Msg{Kind: 4, MTU: 65535}, "0200d180 0000ffff"},
		{six, Msg{Kind: 4, MTU: 65536}, "0200d17f 00010000"},
		{six, Msg{Kind: 4, MTU: math.MaxUint32, Data: []byte{255, 255}}, "0200d17e ffffffff ffff"},
		{six, Msg{Kind: 4}, "0200d180 00000000"},
		{six, Msg{Kind: 5, Code: 1, Data: []byte{1, 2, 3, 4, 5, 6, 7}}, "0301c06c 00000000 01020304050607"},
		{six, Msg{Kind: 5}, "0300d080 00000000"},
		{checks.FromTo(addr.Six(), addr.Six()), Msg{Kind: 1}, "80007fbd 00000000"},
	}
}

// The kinds' numbers.
func TestKinds(t *testing.T) {
	if got := [5]int{Ask, Answer, Unreachable, TooBig, TimeOver}; got != [5]int{1, 2, 3, 4, 5} {
		t.Error(got)
	}
}

// P14.1: known bytes, with their check sums.
func TestKnownBytes(t *testing.T) {
	for _, c := range examples() {
		want := checks.Unhex(c.want)
		if got := laid(t, c.w, c.m); !bytes.Equal(got, want) || !May(c.m, c.w.Src.Six) {
			t.Errorf("%s is laid as %x, not %x", brief(c.m), got, want)
		}
	}
}

// P14.1: the bytes of each, between addresses of all kinds: those of IPv6, if the first one has sixteen bytes.
func TestLay(t *testing.T) {
	for _, w := range checks.Ways() {
		for _, m := range tried(rand.New(rand.NewSource(141)), w.Src.Six, 1000) {
			if got, want := laid(t, w, m), spelt(w, m); !bytes.Equal(got, want) {
				t.Fatalf("%s is laid as %x, not %x", brief(m), got[:min(len(got), 80)], want[:min(len(want), 80)])
			}
		}
	}
}

// P14.1: the check sum is that of layer 3, with 0 in its place: of IPv4 of all bytes, of IPv6 that of protocol 58.
func TestCheckSum(t *testing.T) {
	for _, w := range checks.Ways() {
		for _, m := range tried(rand.New(rand.NewSource(142)), w.Src.Six, 300) {
			b := laid(t, w, m)
			told := binary.BigEndian.Uint16(b[2:])
			good := chksum.Sum(b) == 0xFFFF
			b[2], b[3] = 0, 0
			want := chksum.Check(b)
			if w.Src.Six {
				want = chksum.Load(w.Src, w.Dst, 58, b)
				good = chksum.Good(w.Src, w.Dst, 58, laid(t, w, m))
			}
			if told != want || !good {
				t.Fatalf("%s: the check sum is %x, not %x", brief(m), told, want)
			}
		}
	}
}

// P14.1: of IPv4 the addresses do not count, of IPv6 all their bytes do.
func TestAddressesInSums(t *testing.T) {
	four, six := checks.FourWay(), checks.SixWay()
	for kind := 1; kind <= 5; kind++ {
		m := sized(kind, 5)
		for bit := range 128 {
			other := func(a api.Addr) api.Addr { return api.Addr{Six: a.Six, B: checks.Flipped(a.B, bit)} }
			for _, w := range []checks.Way{checks.FromTo(other(four.Src), four.Dst), checks.FromTo(four.Src, other(four.Dst))} {
				if !bytes.Equal(laid(t, w, m), laid(t, four, m)) {
					t.Errorf("%s: the bit %d of an address counts", brief(m), bit)
				}
			}
			for _, w := range []checks.Way{checks.FromTo(other(six.Src), six.Dst), checks.FromTo(six.Src, other(six.Dst))} {
				got, want := laid(t, w, m), laid(t, six, m)
				if bytes.Equal(got[2:4], want[2:4]) || !bytes.Equal(got[4:], want[4:]) || !bytes.Equal(got[:2], want[:2]) {
					t.Errorf("%s: the bit %d of an address does not count in the sum alone", brief(m), bit)
				}
			}
		}
	}
}

// unlaid holds that no bytes are told of a message.
func unlaid(t *testing.T, w checks.Way, m Msg) {
	t.Helper()
	if b, e := Lay(m, w.Src, w.Dst); b != nil || e != api.ErrArg {
		t.Errorf("Lay(%s) = %x, %v", brief(m), b[:min(len(b), 60)], e)
	}
}

// P14.1: what may be, and what may not, of which no bytes are told.
func TestMay(t *testing.T) {
	for _, six := range []bool{false, true} {
		for _, m := range tried(rand.New(rand.NewSource(143)), six, 500) {
			if !May(m, six) || !may(m, six) {
				t.Errorf("%s may not be", brief(m))
			}
		}
		for _, m := range wrongs(six) {
			if May(m, six) || may(m, six) {
				t.Errorf("%s may be", brief(m))
			}
			for _, w := range checks.Ways() {
				if w.Src.Six == six {
					unlaid(t, w, m)
				}
			}
		}
	}
}

// P14.1: an MTU above 2^16 - 1 may be of IPv6 alone.
func TestLargeMTUs(t *testing.T) {
	for _, n := range []uint32{1<<16 - 1, 1 << 16, 1<<16 + 1, 1 << 31, math.MaxUint32} {
		m := limited(n, sized(4, 3))
		if !May(m, true) || May(m, false) != (n == 1<<16-1) {
			t.Errorf("%s: %t of IPv6, %t of IPv4", brief(m), May(m, true), May(m, false))
		}
		for _, w := range checks.Ways() {
			if n > 1<<16-1 && !w.Src.Six {
				unlaid(t, w, m)
			} else if got := laid(t, w, m); binary.BigEndian.Uint32(got[4:]) != n {
				t.Errorf("%s is laid as %x", brief(m), got)
			}
		}
	}
}

// P14.1: an Unreachable of IPv4 with the Code 4, whose bytes are those of a TooBig, is not laid; with any other Code, of IPv6, and a TimeOver with it, are.
func TestCodes(t *testing.T) {
	for _, w := range checks.Ways() {
		for code := range 256 {
			for _, kind := range []int{3, 5} {
				m := coded(uint8(code), sized(kind, 9))
				if !May(m, w.Src.Six) {
					t.Errorf("%s may not be", brief(m))
				}
				if code == 4 && kind == 3 && !w.Src.Six {
					unlaid(t, w, m)
				} else if got := laid(t, w, m); got[1] != uint8(code) {
					t.Errorf("%s is laid as %x", brief(m), got)
				}
			}
		}
	}
}

// differing are messages that differ from another one in one field alone, each once.
func differing(m Msg) []Msg {
	var turns []func(m *Msg)
	for bit := range 32 {
		turns = append(turns,
			func(m *Msg) { m.Kind ^= 1 << bit }, func(m *Msg) { m.Kind ^= 1 << (bit + 32) }, func(m *Msg) { m.MTU ^= 1 << bit },
			func(m *Msg) { m.Code ^= 1 << (bit % 8) }, func(m *Msg) { m.Id ^= 1 << (bit % 16) }, func(m *Msg) { m.Seq ^= 1 << (bit % 16) })
	}
	turns = append(turns, func(m *Msg) { m.Data = append(slices.Clone(m.Data), 0) }, func(m *Msg) { m.Data = append([]byte{1}, m.Data...) })
	for i := range min(len(m.Data), 1500) {
		turns = append(turns, func(m *Msg) { m.Data = slices.Clone(m.Data); m.Data[i] ^= 1 << (i % 8) })
	}
	if n := len(m.Data); n > 0 {
		turns = append(turns, func(m *Msg) { m.Data = m.Data[:n-1] }, func(m *Msg) { m.Data = m.Data[1:] }, func(m *Msg) { m.Data = nil })
	}
	var out []Msg
	for _, turn := range turns {
		out = append(out, checks.With(m, turn))
	}
	return out
}

// P14.1: the same are the same, and what differs in one field alone is not; also of what may not be.
func TestSame(t *testing.T) {
	list := slices.Concat(tried(rand.New(rand.NewSource(144)), true, 50), wrongs(true))
	list = slices.DeleteFunc(list, func(m Msg) bool { return len(m.Data) > 100 })
	for _, m := range append(list, sized(1, 1399), sized(3, 1400), sized(4, 1401)) {
		if !Same(m, m) || !Same(m, copied(m)) || !Same(copied(m), m) {
			t.Fatalf("%s is not the same as itself", brief(m))
		}
		for _, other := range differing(m) {
			if Same(m, other) || Same(other, m) {
				t.Fatalf("%s and %s are the same", brief(m), brief(other))
			}
		}
	}
	// What stands in another field is not the same.
	for _, c := range [][2]Msg{{{Id: 1}, {Seq: 1}}, {{Id: 1}, {MTU: 1}}, {{Seq: 1}, {MTU: 1}}, {{Code: 1}, {Kind: 1}}, {{Id: 1, Seq: 2}, {Id: 2, Seq: 1}}, {{Id: 1}, {MTU: 1 << 16}}} {
		if Same(c[0], c[1]) || Same(c[1], c[0]) {
			t.Errorf("%s and %s are the same", brief(c[0]), brief(c[1]))
		}
	}
}

// P14.1: each two of many.
func TestSameOfEachTwo(t *testing.T) {
	list := slices.Concat(differing(Msg{}), differing(sized(1, 9)), differing(sized(4, 2)))
	for _, a := range list {
		for _, b := range list {
			if Same(a, b) != alike(a, b) {
				t.Fatalf("Same(%s; %s) = %t", brief(a), brief(b), Same(a, b))
			}
		}
	}
}
