package octets

import (
	"bytes"
	"encoding/binary"
	"encoding/hex"
	"errors"
	"math"
	"math/rand"
	"runtime"
	"slices"
	"strings"
	"testing"

	"downhaul/api"
)

// sizes are those that a number may have, and wrong ones on both sides.
func sizes() []int {
	return []int{math.MinInt, -9, -1, 0, 1, 2, 3, 4, 5, 6, 7, 8, 9, 10, 64, math.MaxInt}
}

// numbers are some at which bytes turn, and some between.
func numbers() []uint64 {
	return []uint64{0, 1, 0x7F, 0x80, 0xFF, 0x100, 258, 0xFFFF, 0x10000, 0x01020304, 1 << 32, 0x0102030405060708, 0x8877665544332211, 1 << 63, math.MaxUint64}
}

// row are the bytes 1, 2 and so on.
func row(n int) []byte {
	b := make([]byte, n)
	for i := range b {
		b[i] = byte(i + 1)
	}
	return b
}

// put is Put, reckoned by way of all eight bytes.
func put(b []byte, size int, nums ...uint64) []byte {
	out := slices.Clone(b)
	for _, n := range nums {
		all := binary.BigEndian.AppendUint64(nil, n)
		out = append(out, all[8-min(max(size, 0), 8):]...)
	}
	return out
}

// stops tells whether a reading panics outside of Try, with a panic that Try catches.
func stops(read func()) (did bool) {
	defer func() {
		v := recover()
		did = v != nil && Try(func() { panic(v) }) == api.ErrEnd
	}()
	read()
	return false
}

// P2.1: the lowest size bytes, the highest first, behind b.
func TestPut(t *testing.T) {
	for _, c := range []struct {
		b    []byte
		size int
		nums []uint64
		want []byte
	}{
		{nil, 2, []uint64{258}, []byte{1, 2}},
		{[]byte{9, 8}, 2, []uint64{258}, []byte{9, 8, 1, 2}},
		{[]byte{9}, 1, []uint64{1, 2, 3}, []byte{9, 1, 2, 3}},
		{nil, 3, []uint64{0xAABBCCDDEE, 5}, []byte{0xCC, 0xDD, 0xEE, 0, 0, 5}},
		{nil, 1, []uint64{256, 511}, []byte{0, 255}},
		{nil, 8, []uint64{0x0102030405060708}, row(8)},
		// A size below 0 is 0, one above 8 is 8.
		{[]byte{7}, 0, []uint64{1, 2}, []byte{7}},
		{[]byte{7}, -1, []uint64{1, 2}, []byte{7}},
		{[]byte{7}, math.MinInt, []uint64{1}, []byte{7}},
		{nil, 9, []uint64{0x0102030405060708}, row(8)},
		{nil, math.MaxInt, []uint64{0x0102030405060708, 1}, append(row(8), 0, 0, 0, 0, 0, 0, 0, 1)},
		// No bytes, no numbers.
		{nil, 4, nil, nil}, {[]byte{}, 4, []uint64{}, nil}, {[]byte{3}, 4, nil, []byte{3}},
	} {
		if got := Put(c.b, c.size, c.nums...); !bytes.Equal(got, c.want) {
			t.Errorf("Put(%v, %d, %v) = %v, not %v", c.b, c.size, c.nums, got, c.want)
		}
	}
	for _, size := range sizes() {
		for begin := range 4 {
			if got, want := Put(row(begin), size, numbers()...), put(row(begin), size, numbers()...); !bytes.Equal(got, want) {
				t.Errorf("Put of size %d behind %d: %v, not %v", size, begin, got, want)
			}
		}
	}
}

// R4: what Put was handed stays as it was, also behind its end, and is not what it answers.
func TestPutLeavesBytes(t *testing.T) {
	b, nums := row(9), []uint64{4, 5, 6}
	got := Put(b[:3], 2, nums[:2]...)
	if !bytes.Equal(b, row(9)) || !slices.Equal(nums, []uint64{4, 5, 6}) {
		t.Fatal(b, nums)
	}
	for i := range got {
		got[i] = 99
	}
	same := Put(b, 2)
	if !bytes.Equal(b, row(9)) || !bytes.Equal(same, b) {
		t.Fatal(b, same)
	}
	same[0] = 99
	if b[0] != 1 {
		t.Fatal("Put answers its argument")
	}
}

// P2.1: the last eight bytes at most.
func TestGet(t *testing.T) {
	for _, c := range []struct {
		b    []byte
		want uint64
	}{
		{nil, 0}, {[]byte{}, 0}, {[]byte{0}, 0}, {[]byte{255}, 255}, {[]byte{1, 2}, 258}, {[]byte{0, 0, 0, 1}, 1},
		{row(7), 0x01020304050607}, {row(8), 0x0102030405060708},
		{row(9), 0x0203040506070809}, {row(20), 0x0D0E0F1011121314},
		{bytes.Repeat([]byte{255}, 8), math.MaxUint64}, {bytes.Repeat([]byte{255}, 100), math.MaxUint64},
		{append([]byte{1}, make([]byte, 8)...), 0},
	} {
		was := slices.Clone(c.b)
		if got := Get(c.b); got != c.want {
			t.Errorf("Get(%v) = %#x, not %#x", c.b, got, c.want)
		}
		if !bytes.Equal(c.b, was) {
			t.Errorf("Get(%v) wrote into it: %v", was, c.b)
		}
	}
}

// P2.1: two small digits each.
func TestHex(t *testing.T) {
	for _, c := range []struct {
		b    []byte
		want string
	}{
		{nil, ""}, {[]byte{}, ""}, {[]byte{0}, "00"}, {[]byte{10}, "0a"}, {[]byte{0xA0}, "a0"},
		{[]byte{0x01, 0x23, 0x45, 0x67, 0x89, 0xAB, 0xCD, 0xEF}, "0123456789abcdef"},
		{[]byte{0xFF, 0x00, 0xF0, 0x0F}, "ff00f00f"},
	} {
		if got := Hex(c.b); got != c.want {
			t.Errorf("Hex(%v) = %q, not %q", c.b, got, c.want)
		}
	}
	for n := range 256 {
		if got := Hex([]byte{byte(n)}); got != hex.EncodeToString([]byte{byte(n)}) {
			t.Errorf("Hex of %d: %q", n, got)
		}
	}
}

// P2.1, R1: digits of capital and small letters; ErrForm of an odd number of bytes, and of what is no hex digit, without bytes.
func TestUnhex(t *testing.T) {
	for _, c := range []struct {
		s    string
		want []byte
		e    api.Errno
	}{
		{"", nil, api.OK}, {"00", []byte{0}, api.OK}, {"0a", []byte{10}, api.OK}, {"a0", []byte{0xA0}, api.OK},
		{"0123456789abcdef", []byte{0x01, 0x23, 0x45, 0x67, 0x89, 0xAB, 0xCD, 0xEF}, api.OK},
		{"ABCDEF", []byte{0xAB, 0xCD, 0xEF}, api.OK}, {"aBCdEf", []byte{0xAB, 0xCD, 0xEF}, api.OK},
		// An odd number.
		{"0", nil, api.ErrForm}, {"123", nil, api.ErrForm}, {"00000", nil, api.ErrForm}, {"g", nil, api.ErrForm},
		// No digits, in each place.
		{"g0", nil, api.ErrForm}, {"0g", nil, api.ErrForm}, {"gg", nil, api.ErrForm}, {"0102g3", nil, api.ErrForm}, {"01023g", nil, api.ErrForm},
		{" 1", nil, api.ErrForm}, {"1 ", nil, api.ErrForm}, {"-1", nil, api.ErrForm}, {"+1", nil, api.ErrForm}, {"0x", nil, api.ErrForm}, {"1_", nil, api.ErrForm},
		{"é", nil, api.ErrForm}, {"\x00\x00", nil, api.ErrForm}, {"\xff\xff", nil, api.ErrForm}, {"１", nil, api.ErrForm}, {"１１", nil, api.ErrForm},
	} {
		got, e := Unhex(c.s)
		if e != c.e || !bytes.Equal(got, c.want) {
			t.Errorf("Unhex(%q) = %v, %d, not %v, %d", c.s, got, e, c.want, c.e)
		}
		if e != api.OK && got != nil {
			t.Errorf("Unhex(%q): bytes beside an error", c.s)
		}
	}
}

// P2.1: each byte in both places of a pair: a digit or none.
func TestUnhexDigits(t *testing.T) {
	for n := range 256 {
		c := string([]byte{byte(n)})
		for _, s := range []string{c + "5", "5" + c, c + c, "00" + c + "1", "000" + c} {
			want, err := hex.DecodeString(s)
			got, e := Unhex(s)
			if (e == api.OK) != (err == nil) || e != api.OK && e != api.ErrForm {
				t.Errorf("Unhex(%q): %d", s, e)
			}
			if err == nil && !bytes.Equal(got, want) {
				t.Errorf("Unhex(%q) = %v, not %v", s, got, want)
			}
		}
	}
}

// P2.1, R6: the same bytes, and as many; none are the same as none.
func TestSame(t *testing.T) {
	for _, c := range []struct {
		a, b []byte
		want bool
	}{
		{nil, nil, true}, {nil, []byte{}, true}, {[]byte{}, []byte{}, true},
		{nil, []byte{0}, false}, {[]byte{}, []byte{0}, false},
		{row(5), row(5), true}, {row(5), row(6), false},
		{[]byte{1, 2}, []byte{2, 1}, false}, {[]byte{1, 2}, []byte{1, 3}, false}, {[]byte{3, 2}, []byte{1, 2}, false},
		{[]byte{0}, []byte{0, 0}, false}, {[]byte{0, 1}, []byte{1}, false},
	} {
		if Same(c.a, c.b) != c.want || Same(c.b, c.a) != c.want {
			t.Errorf("Same(%v, %v) is not %v", c.a, c.b, c.want)
		}
	}
}

// P2.2: numbers, bytes and readers of parts, one behind the other.
func TestReader(t *testing.T) {
	r := Read(row(20))
	if n := r.Num(2); n != 258 || r.Left() != 18 {
		t.Fatal(n, r.Left())
	}
	if b := r.Bytes(3); !bytes.Equal(b, []byte{3, 4, 5}) || r.Left() != 15 {
		t.Fatal(b, r.Left())
	}
	part := r.Sub(4)
	if part.Left() != 4 || r.Left() != 11 {
		t.Fatal(part.Left(), r.Left())
	}
	if n := r.Num(1); n != 10 {
		t.Fatal(n)
	}
	if n := part.Num(1); n != 6 || part.Left() != 3 || r.Left() != 10 {
		t.Fatal(n, part.Left(), r.Left())
	}
	inner := part.Sub(2)
	if b := inner.Bytes(2); !bytes.Equal(b, []byte{7, 8}) || inner.Left() != 0 {
		t.Fatal(b, inner.Left())
	}
	if n := part.Num(1); n != 9 || part.Left() != 0 {
		t.Fatal(n, part.Left())
	}
	// The part has no more, though what it is a part of has.
	if e := Try(func() { part.Num(1) }); e != api.ErrEnd || r.Left() != 10 {
		t.Fatal(e, r.Left())
	}
	if n := r.Num(9); n != 0x0B0C0D0E0F101112 || r.Left() != 2 {
		t.Fatal(n, r.Left())
	}
	if b := r.Bytes(2); !bytes.Equal(b, []byte{19, 20}) || r.Left() != 0 {
		t.Fatal(b, r.Left())
	}
}

// P2.2: sizes below 0 and above 8, and of no bytes, take what they may.
func TestReaderSizes(t *testing.T) {
	for _, size := range []int{math.MinInt, -1, 0} {
		for _, r := range []*Reader{Read(row(3)), Read(nil), Read([]byte{}), nil, {}, new(Reader)} {
			was := r.Left()
			if n, b, s := r.Num(size), r.Bytes(size), r.Sub(size); n != 0 || len(b) != 0 || s.Left() != 0 || r.Left() != was {
				t.Errorf("size %d: %d, %v, %d, %d left of %d", size, n, b, s.Left(), r.Left(), was)
			}
		}
	}
	for _, size := range []int{8, 9, 64, math.MaxInt} {
		r := Read(row(12))
		if n := r.Num(size); n != 0x0102030405060708 || r.Left() != 4 {
			t.Errorf("Num(%d): %#x, %d left", size, n, r.Left())
		}
		if e := Try(func() { Read(row(7)).Num(size) }); e != api.ErrEnd {
			t.Errorf("Num(%d) of 7 bytes: %d", size, e)
		}
		if n := Read(row(8)).Num(size); n != 0x0102030405060708 {
			t.Errorf("Num(%d) of 8 bytes: %#x", size, n)
		}
	}
	// Bytes and readers of parts may be of more than 8.
	r := Read(row(30))
	if b := r.Bytes(9); !bytes.Equal(b, row(9)) || r.Left() != 21 {
		t.Error(b, r.Left())
	}
	if s := r.Sub(21); s.Left() != 21 || r.Left() != 0 {
		t.Error(s.Left(), r.Left())
	}
}

// P2.2, P2.3, P2.5, R7: what stops takes nothing, and the reading may go on.
func TestStopTakesNothing(t *testing.T) {
	for left := range 10 {
		for _, size := range []int{1, 2, 7, 8, 9, 10, 1000, math.MaxInt} {
			r := Read(row(left))
			for name, read := range map[string]func(){
				"Num": func() { r.Num(size) }, "Bytes": func() { r.Bytes(size) }, "Sub": func() { r.Sub(size) },
			} {
				need := size
				if name == "Num" {
					need = min(size, 8)
				}
				if need <= left {
					continue
				}
				if e := Try(read); e != api.ErrEnd || r.Left() != left {
					t.Errorf("%s(%d) of %d: %d, %d left", name, size, left, e, r.Left())
				}
				if !stops(read) || r.Left() != left {
					t.Errorf("%s(%d) of %d goes on outside of Try, or takes", name, size, left)
				}
			}
			if b := r.Bytes(left); !bytes.Equal(b, row(left)) {
				t.Errorf("behind a stop: %v, not %v", b, row(left))
			}
		}
	}
}

// P2.3: a nil reader, and ones that Read did not give, have nothing left.
func TestReadersOfNothing(t *testing.T) {
	for _, r := range []*Reader{nil, {}, new(Reader), Read(nil), Read([]byte{}), Read(row(3)).Sub(0), (*Reader)(nil).Sub(0), (*Reader)(nil).Sub(-1)} {
		if r.Left() != 0 {
			t.Error(r.Left())
		}
		for _, read := range []func(){func() { r.Num(1) }, func() { r.Bytes(1) }, func() { r.Sub(1) }, func() { r.Num(9) }} {
			if e := Try(read); e != api.ErrEnd {
				t.Error(e)
			}
			if !stops(read) {
				t.Error("it goes on outside of Try")
			}
		}
	}
}

// P2.3: OK, and all of the reading done; ErrEnd, and what stood ahead of the stop done; a nil reading.
func TestTry(t *testing.T) {
	did := 0
	if e := Try(func() { did++ }); e != api.OK || did != 1 {
		t.Error(e, did)
	}
	if e := Try(func() { did++; Read(row(1)).Num(2); did += 10 }); e != api.ErrEnd || did != 2 {
		t.Error(e, did)
	}
	if e := Try(nil); e != api.ErrNil {
		t.Error(e)
	}
	// One within the other: the inner one catches.
	if e := Try(func() {
		if e := Try(func() { Read(nil).Num(1) }); e != api.ErrEnd {
			t.Error(e)
		}
		did = 50
	}); e != api.OK || did != 50 {
		t.Error(e, did)
	}
	// A stop outside of the inner one goes to the outer one.
	if e := Try(func() {
		Try(func() {})
		Read(nil).Sub(1)
	}); e != api.ErrEnd {
		t.Error(e)
	}
}

// P2.3: any other panic goes on, with its own value.
func TestTryOfOtherPanics(t *testing.T) {
	type stop struct{}
	for _, v := range []any{"text", "", 0, 4, false, api.ErrEnd, api.OK, errors.New("end"), struct{}{}, stop{}, &stop{}} {
		func() {
			defer func() {
				if told := recover(); told != v {
					t.Errorf("%v came as %v", v, told)
				}
			}()
			e := Try(func() { panic(v) })
			t.Errorf("panic of %v: %d", v, e)
		}()
	}
	// Those of the language itself.
	var none []byte
	var nowhere func()
	for _, read := range []func(){func() { none[len(none)]++ }, nowhereCall(nowhere)} {
		func() {
			defer func() {
				if _, ok := recover().(runtime.Error); !ok {
					t.Error("no error of the language")
				}
			}()
			t.Error(Try(read))
		}()
	}
	func() {
		defer func() {
			if _, ok := recover().(*runtime.PanicNilError); !ok {
				t.Error("a panic of nil did not go on")
			}
		}()
		t.Error(Try(func() { panic(nil) }))
	}()
}

// nowhereCall calls a function, which may be nil.
func nowhereCall(f func()) func() { return func() { f() } }

// R4: a reader hangs on the bytes as they were; what it answers is the caller's.
func TestReaderKeepsItsBytes(t *testing.T) {
	b := row(12)
	r := Read(b[:8])
	for i := range b {
		b[i] = 99
	}
	part := r.Sub(4)
	got := part.Bytes(2)
	if !bytes.Equal(got, []byte{1, 2}) {
		t.Fatal(got)
	}
	// Neither writing into the answer nor putting behind it turns what comes.
	got[0], got[1] = 77, 77
	_ = append(got, 88, 88, 88, 88, 88, 88)
	if n := part.Num(2); n != 0x0304 {
		t.Fatalf("%#x", n)
	}
	rest := r.Bytes(4)
	if !bytes.Equal(rest, []byte{5, 6, 7, 8}) {
		t.Fatal(rest)
	}
	for _, c := range b {
		if c != 99 {
			t.Fatal("what was handed in was written into")
		}
	}
}

// P2.4: what is put is read, cut to its size.
func TestPutIsRead(t *testing.T) {
	for _, size := range sizes() {
		width := min(max(size, 0), 8)
		b := Put(nil, size, numbers()...)
		if len(b) != width*len(numbers()) {
			t.Fatalf("size %d: %d bytes", size, len(b))
		}
		r := Read(b)
		for _, n := range numbers() {
			cut := n
			if width < 8 {
				cut = n % (1 << (8 * width))
			}
			if got := r.Num(size); got != cut {
				t.Errorf("size %d: %#x, not %#x", size, got, cut)
			}
			if got := Get(Put(nil, size, n)); got != cut {
				t.Errorf("Get, size %d: %#x, not %#x", size, got, cut)
			}
		}
		if r.Left() != 0 {
			t.Errorf("size %d: %d left", size, r.Left())
		}
	}
}

// P2.5, R3, R5: by chance, in any order, held against a place in the bytes.
func TestReadingByChance(t *testing.T) {
	chance := rand.New(rand.NewSource(4))
	for range 2000 {
		b := make([]byte, chance.Intn(60))
		chance.Read(b)
		r, at := Read(b), 0
		for range 20 {
			size := chance.Intn(14) - 2
			take := max(size, 0)
			kind := chance.Intn(3)
			if kind == 0 {
				take = min(take, 8)
			}
			var num uint64
			var got []byte
			e := Try(func() {
				switch kind {
				case 0:
					num = r.Num(size)
				case 1:
					got = r.Bytes(size)
				case 2:
					s := r.Sub(size)
					got = s.Bytes(s.Left())
				}
			})
			if take > len(b)-at {
				if e != api.ErrEnd || num != 0 || got != nil || r.Left() != len(b)-at {
					t.Fatalf("kind %d, size %d of %d: %d, %d left", kind, size, len(b)-at, e, r.Left())
				}
				continue
			}
			want := b[at : at+take]
			at += take
			if e != api.OK || r.Left() != len(b)-at {
				t.Fatalf("kind %d, size %d: %d, %d left of %d", kind, size, e, r.Left(), len(b)-at)
			}
			if kind == 0 && num != Get(want) || kind != 0 && !bytes.Equal(got, want) {
				t.Fatalf("kind %d, size %d: %d, %v, not %v", kind, size, num, got, want)
			}
		}
	}
}

// P2.6: the hex of bytes is that of these bytes, of all lengths, and in capital letters.
func TestHexIsThose(t *testing.T) {
	chance := rand.New(rand.NewSource(5))
	for n := range 300 {
		b := make([]byte, n)
		chance.Read(b)
		was := slices.Clone(b)
		s := Hex(b)
		if s != hex.EncodeToString(b) {
			t.Fatalf("Hex(%v) = %q", b, s)
		}
		for _, text := range []string{s, strings.ToUpper(s)} {
			if got, e := Unhex(text); e != api.OK || !Same(got, b) {
				t.Fatalf("Unhex(%q) = %v, %d", text, got, e)
			}
		}
		if !bytes.Equal(b, was) {
			t.Fatal("Hex wrote into its bytes")
		}
	}
}
