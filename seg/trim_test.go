package seg

import (
	"bytes"
	"math"
	"math/rand"
	"slices"
	"testing"

	"downhaul/api"
	"downhaul/checks"
)

// marks of a segment's numbers, but for its bytes.
const (
	markOfSyn = -1
	markOfFin = -2
)

// marks are a segment's numbers, one by one, in their order.
func marks(s api.Seg) []int {
	var out []int
	if s.Flags&2 != 0 {
		out = append(out, markOfSyn)
	}
	for _, c := range s.Data {
		out = append(out, int(c))
	}
	if s.Flags&1 != 0 {
		out = append(out, markOfFin)
	}
	return out
}

// marked is a segment with just these numbers.
func marked(s api.Seg, marks []int) api.Seg {
	s.Flags, s.Data = s.Flags&^3, nil
	for _, m := range marks {
		switch m {
		case markOfSyn:
			s.Flags |= 2
		case markOfFin:
			s.Flags |= 1
		default:
			s.Data = append(s.Data, byte(m))
		}
	}
	return s
}

// aheadOf is how far b is ahead of a, by layer 1's words.
func aheadOf(a, b uint32) int {
	n := (int(b) - int(a) + 1<<32) % (1 << 32)
	if n >= 1<<31 {
		n -= 1 << 32
	}
	return n
}

// trimByWords is a segment within a window, by the chapter's words.
func trimByWords(s api.Seg, begin, size uint32) api.Seg {
	left := marks(s)
	if n := aheadOf(s.Seq, begin); n > 0 {
		left = left[min(n, len(left)):]
		s.Seq = begin
	}
	most := max(int(size)+aheadOf(s.Seq, begin), 0)
	return marked(s, left[:min(most, len(left))])
}

// trimmed is a segment within a window: as by the chapter's words, with no room behind its data, and the same if it is trimmed again.
func trimmed(t *testing.T, s api.Seg, begin, size uint32) api.Seg {
	t.Helper()
	got := Trim(s, begin, size)
	if want := trimByWords(s, begin, size); !checks.AlikeSegs(got, want) {
		t.Fatalf("Trim(%s, %d, %d) = %s, not %s", brief(s), begin, size, brief(got), brief(want))
	}
	if cap(got.Data) != len(got.Data) {
		t.Fatalf("Trim(%s, %d, %d) has room for %d behind its %d bytes", brief(s), begin, size, cap(got.Data), len(got.Data))
	}
	if again := Trim(got, begin, size); !checks.AlikeSegs(again, got) {
		t.Fatalf("Trim(%s, %d, %d): first %s, then %s", brief(s), begin, size, brief(got), brief(again))
	}
	return got
}

// saying is a segment of Seq 1000, with flags and the bytes of a text.
func saying(flags uint8, text string) api.Seg {
	return api.Seg{Src: 1, Dst: 2, Seq: 1000, Ack: 3, Flags: flags, Window: 4, Urgent: 5, Data: []byte(text)}
}

// P13.4: from which side what is cut off, told one by one.
func TestTrim(t *testing.T) {
	const (
		syn, fin = api.Syn, api.Fin
		both     = syn | fin
		most     = math.MaxUint32
	)
	for _, c := range []struct {
		flags       uint8
		text        string
		begin, size uint32
		seq         uint32
		kept        uint8
		left        string
	}{
		// All of it lies within.
		{both, "abc", 1000, 5, 1000, both, "abc"},
		{both, "abc", 1000, 6, 1000, both, "abc"},
		{both, "abc", 1000, most, 1000, both, "abc"},
		{both, "abc", 990, 15, 1000, both, "abc"},
		{0, "", 1000, 0, 1000, 0, ""},
		// Ahead of the window: Syn first, then data, then Fin.
		{both, "abc", 1001, 9, 1001, fin, "abc"},
		{both, "abc", 1002, 9, 1002, fin, "bc"},
		{both, "abc", 1004, 9, 1004, fin, ""},
		{both, "abc", 1005, 9, 1005, 0, ""},
		{both, "abc", 1006, 9, 1006, 0, ""},
		{syn, "abc", 1001, 9, 1001, 0, "abc"},
		{fin, "abc", 1001, 9, 1001, fin, "bc"},
		{fin, "abc", 1003, 9, 1003, fin, ""},
		{fin, "abc", 1004, 9, 1004, 0, ""},
		{0, "abc", 1002, 9, 1002, 0, "c"},
		{0, "abc", 1003, 9, 1003, 0, ""},
		{syn, "", 1001, 9, 1001, 0, ""},
		{fin, "", 1001, 9, 1001, 0, ""},
		{both, "", 1001, 9, 1001, fin, ""},
		{0, "", 1001, 9, 1001, 0, ""},
		{both, "abc", 1000 + 1<<31 - 1, most, 1000 + 1<<31 - 1, 0, ""},
		{0, "", 1000 + 1<<31 - 1, 0, 1000 + 1<<31 - 1, 0, ""},
		// Behind the window: Fin first, then data, then Syn.
		{both, "abc", 1000, 4, 1000, syn, "abc"},
		{both, "abc", 1000, 3, 1000, syn, "ab"},
		{both, "abc", 1000, 1, 1000, syn, ""},
		{both, "abc", 1000, 0, 1000, 0, ""},
		{syn, "abc", 1000, 3, 1000, syn, "ab"},
		{fin, "abc", 1000, 3, 1000, 0, "abc"},
		{fin, "abc", 1000, 2, 1000, 0, "ab"},
		{0, "abc", 1000, 2, 1000, 0, "ab"},
		{0, "abc", 1000, 0, 1000, 0, ""},
		{both, "", 1000, 1, 1000, syn, ""},
		{fin, "", 1000, 0, 1000, 0, ""},
		{syn, "", 1000, 0, 1000, 0, ""},
		// Seq is ahead of the window: by less than size, by just size, and by more.
		{both, "abc", 998, 7, 1000, both, "abc"},
		{both, "abc", 998, 6, 1000, syn, "abc"},
		{both, "abc", 998, 3, 1000, syn, ""},
		{both, "abc", 998, 2, 1000, 0, ""},
		{both, "abc", 998, 1, 1000, 0, ""},
		{both, "abc", 998, 0, 1000, 0, ""},
		{both, "abc", 0, 999, 1000, 0, ""},
		{both, "abc", 0, 1000, 1000, 0, ""},
		{both, "abc", 0, 1001, 1000, syn, ""},
		{0, "abc", 999, 3, 1000, 0, "ab"},
		// Half a turn apart, begin is behind.
		{both, "abc", 1000 + 1<<31, most, 1000, both, "abc"},
		{both, "abc", 1000 + 1<<31, 1<<31 + 2, 1000, syn, "a"},
		{both, "abc", 1000 + 1<<31, 1 << 31, 1000, 0, ""},
		{both, "abc", 1000 + 1<<31, 1<<31 - 1, 1000, 0, ""},
		{both, "abc", 1000 + 1<<31 + 1, 1<<31 + 4, 1000, both, "abc"},
		{both, "abc", 1000 + 1<<31 + 1, 1<<31 + 1, 1000, syn, "a"},
		{both, "abc", 1000 + 1<<31 + 1, 1 << 31, 1000, syn, ""},
		// From both sides.
		{both, "abcde", 1001, 5, 1001, 0, "abcde"},
		{both, "abcde", 1002, 3, 1002, 0, "bcd"},
		{both, "abcde", 1006, 0, 1006, 0, ""},
		{both, "abcde", 1006, 1, 1006, fin, ""},
		{fin, "abcde", 1001, 4, 1001, 0, "bcde"},
		{syn, "abcde", 1001, 4, 1001, 0, "abcd"},
		{both, "abcde", 1009, 0, 1009, 0, ""},
	} {
		s := saying(c.flags|api.Psh|api.Ack|api.Urg, c.text)
		s.Opts = checks.Full()
		want := s
		want.Seq, want.Flags, want.Data = c.seq, c.kept|api.Psh|api.Ack|api.Urg, []byte(c.left)
		if got := trimmed(t, s, c.begin, c.size); !checks.AlikeSegs(got, want) {
			t.Errorf("Trim(%s, %d, %d) = %s, not %s", brief(s), c.begin, c.size, brief(got), brief(want))
		}
	}
}

// turnsOf are numbers at which all goes round, and such at which nothing does.
func turnsOf() []uint32 {
	return []uint32{0, 1, 5, 1000, 1<<31 - 3, 1 << 31, math.MaxUint32 - 20, math.MaxUint32 - 3, math.MaxUint32}
}

// P13.4, P13.7: all short segments, with all windows about them, wherever they are: their numbers lie within it, and their data is a part of what it was.
func TestAllShortOnes(t *testing.T) {
	sizes := []uint32{0, 1, 2, 3, 4, 5, 6, 7, 8, 9, 10, 11, 12, 13, 14, 1<<31 - 1, 1 << 31, math.MaxUint32 - 1, math.MaxUint32}
	for _, seq := range turnsOf() {
		for flags := range uint8(4) {
			for n := range 6 {
				s := at(seq, saying(flags|api.Ack, "abcdef"[:n]))
				for off := -10; off <= 10; off++ {
					for _, size := range sizes {
						within(t, s, seq+uint32(off), size)
					}
				}
			}
		}
	}
}

// within holds that what is trimmed has numbers within the window alone, and that its data is a part of what it was.
func within(t *testing.T, s api.Seg, begin, size uint32) {
	t.Helper()
	got := trimmed(t, s, begin, size)
	if !bytes.Contains(s.Data, got.Data) || len(got.Data) > 0 && !partAt(s, got) {
		t.Fatalf("Trim(%s, %d, %d) = %s: the data is no part of what it was", brief(s), begin, size, brief(got))
	}
	for i := range len(marks(got)) {
		if place := got.Seq + uint32(i) - begin; place >= size {
			t.Fatalf("Trim(%s, %d, %d) = %s: number %d lies without", brief(s), begin, size, brief(got), i)
		}
	}
	rest := func(s api.Seg) api.Seg { return marked(at(0, s), nil) }
	if !checks.AlikeSegs(rest(got), rest(s)) {
		t.Fatalf("Trim(%s, %d, %d) = %s: more than its numbers is turned", brief(s), begin, size, brief(got))
	}
}

// partAt tells whether the bytes of a part stand at the same numbers as in the whole.
func partAt(whole, part api.Seg) bool {
	first := func(s api.Seg) uint32 { return s.Seq + uint32(s.Flags>>1&1) }
	from := int(first(part) - first(whole))
	return from+len(part.Data) <= len(whole.Data) && bytes.Equal(whole.Data[from:from+len(part.Data)], part.Data)
}

// P13.4: begin at each edge of half a turn, with sizes at theirs.
func TestTrimHalfATurn(t *testing.T) {
	for _, seq := range turnsOf() {
		for flags := range uint8(4) {
			s := at(seq, saying(flags, "abcd"))
			for _, off := range []uint32{1<<30 - 1, 1 << 30, 1<<31 - 2, 1<<31 - 1, 1 << 31, 1<<31 + 1, 1<<31 + 2, 1<<31 + 5, 3 << 30} {
				for _, near := range []uint32{0, 1, 2, 3, 4, 5, 6, 7} {
					for _, size := range []uint32{near, -off - 3 + near, off - 3 + near, 1<<31 - 3 + near, -near - 1} {
						within(t, s, seq+off, size)
					}
				}
			}
		}
	}
}

// P13.4: of as many numbers as a segment may have, and of more, at each edge.
func TestTrimLongOnes(t *testing.T) {
	for _, n := range []int{1460, 16383, 16384, 16385, 70000} {
		data := checks.Bytes(rand.New(rand.NewSource(139)).Intn, n)
		for flags := range uint8(4) {
			s := api.Seg{Seq: math.MaxUint32 - 700, Flags: flags, Data: data}
			all := uint32(len(marks(s)))
			for _, begin := range []uint32{0, 1, 2, all / 2, all - 2, all - 1, all, all + 1, all + 2, 1<<31 - 1, 1 << 31, -all, math.MaxUint32} {
				for _, size := range []uint32{0, 1, all/2 - 1, all - 2, all - 1, all, all + 1, math.MaxUint32} {
					trimmed(t, s, s.Seq+begin, size)
				}
			}
		}
	}
}

// P13.4, P13.7: segments by chance, with windows that they reach into, and ones far away; also such that may not be.
func TestTrimByChance(t *testing.T) {
	chance := rand.New(rand.NewSource(140))
	list := slices.Concat(tried(chance, 3000), checks.WrongSegments())
	list = slices.DeleteFunc(list, func(s api.Seg) bool { return len(s.Data) > 500 })
	cut := map[bool]int{}
	for range 100000 {
		s := list[chance.Intn(len(list))]
		if chance.Intn(2) == 0 {
			s.Seq = chance.Uint32()
		}
		near := int64(len(s.Data) + 10)
		begin := s.Seq + uint32(chance.Int63n(2*near)-near)
		size := uint32(chance.Int63n(2 * near))
		switch chance.Intn(6) {
		case 0:
			begin = s.Seq + uint32(chance.Int63n(1<<31)-1<<30)
		case 1:
			size = chance.Uint32()
		case 2:
			begin, size = chance.Uint32(), chance.Uint32()
		}
		within(t, s, begin, size)
		cut[checks.AlikeSegs(Trim(s, begin, size), s)]++
	}
	if cut[true] < 10000 || cut[false] < 10000 {
		t.Error(cut)
	}
}

// P13.4: trimmed to a window, and then to one within it: as trimmed to that at once.
func TestTrimTwice(t *testing.T) {
	chance := rand.New(rand.NewSource(141))
	for range 50000 {
		s := checks.AnySeg(chance.Intn, 30)
		begin, size := s.Seq+uint32(chance.Intn(60)-30), uint32(chance.Intn(60))
		from := uint32(chance.Intn(int(size) + 1))
		less := uint32(chance.Intn(int(size-from) + 1))
		one, two := Trim(s, begin+from, less), Trim(Trim(s, begin, size), begin+from, less)
		if Len(one) != 0 && !checks.AlikeSegs(one, two) || Len(two) != Len(one) {
			t.Fatalf("%s, to %d, %d, then to %d, %d: %s, not %s", brief(s), begin, size, begin+from, less, brief(two), brief(one))
		}
	}
}

// R4: what is put behind data that was cut off turns nothing else.
func TestNoRoomBehind(t *testing.T) {
	for n := range 70 {
		s := saying(api.Syn|api.Fin, "")
		s.Data = slices.Concat(checks.Rising(n), make([]byte, 30))[:n]
		was := slices.Clone(s.Data[:n+30])
		for from := range uint32(n + 3) {
			for size := range uint32(n + 3) {
				got := trimmed(t, s, s.Seq+from, size)
				_ = append(got.Data, 1, 2, 3)
				checks.Spoil(got.Data)
				if !bytes.Equal(s.Data[:n+30], was) {
					t.Fatalf("Trim(%s, %d, %d): what was handed in was written into", brief(s), s.Seq+from, size)
				}
			}
		}
	}
}
