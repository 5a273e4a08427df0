package seg

import (
	"math"
	"math/rand"
	"testing"

	"downhaul/api"
	"downhaul/checks"
)

// resetByWords is what answers a segment where no connection is, by the chapter's words.
func resetByWords(s api.Seg) (api.Seg, bool) {
	switch {
	case s.Flags>>2&1 == 1:
		return api.Seg{}, false
	case s.Flags>>4&1 == 1:
		return api.Seg{Src: s.Dst, Dst: s.Src, Seq: s.Ack, Flags: 4}, true
	}
	n := int64(s.Seq) + int64(len(s.Data)) + int64(s.Flags&1) + int64(s.Flags>>1&1)
	return api.Seg{Src: s.Dst, Dst: s.Src, Ack: uint32(n % (1 << 32)), Flags: 4 + 16}, true
}

// P13.3: the chapter's example, and others.
func TestReset(t *testing.T) {
	most := uint32(math.MaxUint32)
	for _, c := range []struct{ s, want api.Seg }{
		{api.Seg{Seq: 5, Flags: api.Syn}, api.Seg{Ack: 6, Flags: api.Rst | api.Ack}},
		{api.Seg{}, api.Seg{Flags: api.Rst | api.Ack}},
		{api.Seg{Src: 1, Dst: 65535, Seq: 7, Ack: 9, Flags: api.Ack}, api.Seg{Src: 65535, Dst: 1, Seq: 9, Flags: api.Rst}},
		{api.Seg{Src: 1, Dst: 2, Seq: 7, Ack: 9}, api.Seg{Src: 2, Dst: 1, Ack: 7, Flags: api.Rst | api.Ack}},
		{api.Seg{Seq: 5, Ack: 9, Flags: api.Syn | api.Ack}, api.Seg{Seq: 9, Flags: api.Rst}},
		{api.Seg{Seq: 5, Flags: api.Fin}, api.Seg{Ack: 6, Flags: api.Rst | api.Ack}},
		{api.Seg{Seq: 5, Flags: api.Syn | api.Fin, Data: make([]byte, 10)}, api.Seg{Ack: 17, Flags: api.Rst | api.Ack}},
		{api.Seg{Seq: 5, Data: make([]byte, 10)}, api.Seg{Ack: 15, Flags: api.Rst | api.Ack}},
		{api.Seg{Seq: most, Flags: api.Syn}, api.Seg{Ack: 0, Flags: api.Rst | api.Ack}},
		{api.Seg{Seq: most}, api.Seg{Ack: most, Flags: api.Rst | api.Ack}},
		{api.Seg{Seq: most - 1, Flags: api.Fin, Data: []byte{1, 2}}, api.Seg{Ack: 1, Flags: api.Rst | api.Ack}},
		{api.Seg{Ack: most, Flags: api.Ack}, api.Seg{Seq: most, Flags: api.Rst}},
		{api.Seg{Seq: most, Ack: 0, Flags: api.Ack}, api.Seg{Flags: api.Rst}},
		{checks.Choosing(checks.Full(), api.Seg{Seq: 3, Ack: 4, Flags: api.Ack | api.Urg | api.Psh, Window: 500, Urgent: 8, Data: []byte("hello")}), api.Seg{Seq: 4, Flags: api.Rst}},
		{checks.Choosing(checks.Full(), api.Seg{Seq: 3, Ack: 4, Flags: api.Urg | api.Psh, Window: 500, Urgent: 8, Data: []byte("hello")}), api.Seg{Ack: 8, Flags: api.Rst | api.Ack}},
	} {
		if got, ok := Reset(c.s); !ok || !checks.AlikeSegs(got, c.want) {
			t.Errorf("Reset(%s) = %s, %t", brief(c.s), brief(got), ok)
		}
	}
}

// P13.3: none of what has Rst, whatever else it has.
func TestResetOfRst(t *testing.T) {
	for flags := range 256 {
		s := checks.Flagged(uint8(flags)|api.Rst, checks.Choosing(checks.Full(), checks.Sized(5)))
		if got, ok := Reset(s); ok || !checks.AlikeSegs(got, api.Seg{}) {
			t.Errorf("Reset(%s) = %s, %t", brief(s), brief(got), ok)
		}
	}
}

// P13.3: with each set of flags, data of many lengths, and numbers at their ends; what answers may be, and is not answered itself.
func TestResetByWords(t *testing.T) {
	var list []api.Seg
	for flags := range 256 {
		for _, n := range []int{0, 1, 2, 1460, 16384, 16385, 1 << 17} {
			for _, seq := range []uint32{0, 1, 1 << 31, math.MaxUint32 - 1, math.MaxUint32} {
				list = append(list, api.Seg{Src: 1000, Dst: 2000, Seq: seq, Ack: seq ^ 77, Flags: uint8(flags), Window: 9, Urgent: 9, Data: make([]byte, n)})
			}
		}
	}
	list = append(list, tried(rand.New(rand.NewSource(135)), 2000)...)
	for _, s := range append(list, checks.WrongSegments()...) {
		got, ok := Reset(s)
		want, fine := resetByWords(s)
		if !checks.AlikeSegs(got, want) || ok != fine || !May(got) {
			t.Fatalf("Reset(%s) = %s, %t, not %s, %t", brief(s), brief(got), ok, brief(want), fine)
		}
		if again, ok := Reset(got); fine && (ok || !checks.AlikeSegs(again, api.Seg{})) {
			t.Fatalf("%s is answered itself", brief(got))
		}
	}
}
