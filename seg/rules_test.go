package seg

import (
	"bytes"
	"math/rand"
	"slices"
	"testing"

	"downhaul/api"
	"downhaul/checks"
)

// question is what all calls are asked about.
type question struct {
	w           checks.Way
	s, other    api.Seg
	b           []byte
	begin, size uint32
	flags       uint8
}

// asked is a question by chance, of segments that may be, and such that may not.
func asked(chance *rand.Rand, list []api.Seg) question {
	w := checks.Ways()[chance.Intn(len(checks.Ways()))]
	s := list[chance.Intn(len(list))]
	return question{w, s, list[chance.Intn(len(list))], someBytes(chance, w), s.Seq + uint32(chance.Intn(40)-20), uint32(chance.Intn(100)), uint8(chance.Intn(256))}
}

// answers are all that the calls tell of it.
func (q question) answers() [13]any {
	laid, e := Lay(q.w.Src, q.w.Dst, q.s)
	parsed, f := Parse(q.w.Src, q.w.Dst, q.b)
	reset, ok := Reset(q.s)
	trim := Trim(q.s, q.begin, q.size)
	return [13]any{May(q.s), string(laid), e, brief(parsed), string(parsed.Data), f, Same(q.s, q.other), Len(q.s), Has(q.s, q.flags), brief(reset), ok, brief(trim), string(trim.Data)}
}

// fewer are segments that may be, and such that may not, with no long lists.
func fewer(chance *rand.Rand, n int) []api.Seg {
	list := slices.Concat(tried(chance, n), checks.WrongSegments())
	return slices.DeleteFunc(list, func(s api.Seg) bool { return len(s.Data) > 600 })
}

// R3, R7: calls in any order, and again, wrong ones among them, answer the same.
func TestAnyOrder(t *testing.T) {
	chance := rand.New(rand.NewSource(142))
	list := fewer(chance, 1000)
	ask := func() question { return asked(chance, list) }
	checks.Again(5000, ask, question.answers, func(q question, first, then [13]any) {
		t.Fatalf("%s, %x: first %v, then %v", brief(q.s), q.b, first, then)
	})
}

// roomy is a segment whose lists have something behind their ends, and these lists with it.
func roomy(chance *rand.Rand, s api.Seg) (api.Seg, []byte, []api.Block) {
	data := slices.Concat(s.Data, checks.Bytes(chance.Intn, 20))
	sacks := slices.Concat(s.Opts.Sacks, checks.With(api.Opts{}, checks.Runs(4)).Sacks)
	s.Data, s.Opts.Sacks = data[:len(s.Data)], sacks[:len(s.Opts.Sacks)]
	return s, data, sacks
}

// R4: what is handed in stays as it was, also behind its end; what stands there does not count, and nothing is kept.
func TestListsStay(t *testing.T) {
	chance := rand.New(rand.NewSource(143))
	list := fewer(chance, 3000)
	for range 5000 {
		q := asked(chance, list)
		want := q
		want.s = checks.CopiedSeg(q.s)
		want.b = slices.Clone(q.b)
		var data, text []byte
		var sacks []api.Block
		q.s, data, sacks = roomy(chance, q.s)
		text = slices.Concat(q.b, checks.Bytes(chance.Intn, 20))
		q.b = text[:len(q.b)]
		wasData, wasText, wasSacks := slices.Clone(data), slices.Clone(text), slices.Clone(sacks)
		laid, _ := Lay(q.w.Src, q.w.Dst, q.s)
		parsed, _ := Parse(q.w.Src, q.w.Dst, q.b)
		trim := Trim(q.s, q.begin, q.size)
		if q.answers() != want.answers() || !Same(q.s, want.s) || !Same(want.s, q.s) {
			t.Fatalf("%s: what is behind the lists counts", brief(want.s))
		}
		if !bytes.Equal(data, wasData) || !bytes.Equal(text, wasText) || !slices.Equal(sacks, wasSacks) {
			t.Fatalf("%s: the lists were written into", brief(want.s))
		}
		clear(data)
		clear(text)
		clear(sacks)
		again, _ := Lay(want.w.Src, want.w.Dst, want.s)
		same, _ := wanted(want.w, want.b)
		if !bytes.Equal(laid, again) || !checks.AlikeSegs(parsed, same) || !checks.AlikeSegs(trim, trimByWords(want.s, want.begin, want.size)) {
			t.Fatalf("%s: the lists are kept", brief(want.s))
		}
	}
}

// R4: what is answered is the caller's, who may write into it, and behind it.
func TestAnswersAreTheCallers(t *testing.T) {
	spoil := func(s api.Seg) {
		checks.Spoil(s.Data)
		checks.SpoilRuns(s.Opts.Sacks)
	}
	for _, s := range fewer(rand.New(rand.NewSource(144)), 1000) {
		if !may(s) {
			continue
		}
		was := checks.CopiedSeg(s)
		text := spelt(checks.SixWay(), s)
		one, two := laid(t, checks.SixWay(), s), laid(t, checks.SixWay(), s)
		checks.Spoil(one)
		if !checks.AlikeSegs(s, was) || !bytes.Equal(two, text) || !bytes.Equal(laid(t, checks.SixWay(), s), text) {
			t.Fatalf("%s: what is laid is not the caller's", brief(was))
		}
		room := append(slices.Clone(text), 1, 2, 3)
		first, second := parsed(t, checks.SixWay(), room[:len(text)]), parsed(t, checks.SixWay(), room[:len(text)])
		spoil(first)
		if !checks.AlikeSegs(second, was) || !bytes.Equal(room, append(slices.Clone(text), 1, 2, 3)) {
			t.Fatalf("%s: what is parsed is not the caller's", brief(was))
		}
	}
	for _, s := range fewer(rand.New(rand.NewSource(145)), 1000) {
		s.Data, s.Opts.Sacks = slices.Grow(s.Data, 9), slices.Grow(s.Opts.Sacks, 4)
		data, sacks := s.Data[:cap(s.Data)], s.Opts.Sacks[:cap(s.Opts.Sacks)]
		was, wasData, wasSacks := checks.CopiedSeg(s), slices.Clone(data), slices.Clone(sacks)
		for _, c := range [][2]uint32{{s.Seq, 1 << 31}, {s.Seq + 1, 1 << 31}, {s.Seq + 2, 3}, {s.Seq - 2, 4}, {s.Seq, 0}} {
			one, two := Trim(s, c[0], c[1]), Trim(s, c[0], c[1])
			spoil(one)
			if !checks.AlikeSegs(two, trimByWords(was, c[0], c[1])) || !checks.AlikeSegs(s, was) || !bytes.Equal(data, wasData) || !slices.Equal(sacks, wasSacks) {
				t.Fatalf("%s: what is trimmed is not the caller's", brief(was))
			}
		}
	}
}

// R1, R7: beside an error there is nothing: of a segment that was read up to it, nothing is told.
func TestNothingBesideErrors(t *testing.T) {
	w := checks.SixWay()
	for _, s := range []api.Seg{checks.Sized(0), checks.Sized(16384), checks.Choosing(checks.Options()[12], checks.Sized(30)), checks.Flagged(63, checks.Choosing(checks.Full(), checks.Sized(1)))} {
		good := laid(t, w, s)
		size := int(good[12] >> 4 * 4)
		for n := range size {
			refuse(t, "cut off", w, good[:n], api.ErrEnd)
		}
		refuse(t, "a sum", w, misfit(good), api.ErrSum)
		refuse(t, "too much data", w, summed(w, append(slices.Clone(good), make([]byte, 16385)...)), api.ErrForm)
		refuse(t, "an upper half of 4", w, told(w, good, 0x4F), api.ErrForm)
		if size > 20 {
			wrong := slices.Clone(good)
			wrong[21] = 0
			refuse(t, "an option of length 0", w, summed(w, wrong), api.ErrForm)
		}
	}
}
