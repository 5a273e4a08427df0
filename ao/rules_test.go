package ao

import (
	"bytes"
	"math/rand"
	"slices"
	"testing"

	"downhaul/api"
	"downhaul/checks"
)

// question is what all calls are asked about.
type question struct {
	alg    int
	master []byte
	l      link
	k      Keys
	w      checks.Way
	s      api.Seg
	sne    uint32
	ids    [2]uint8
}

// asked is a question by chance, of what may be, and what may not.
func asked(chance *rand.Rand, list []api.Seg) question {
	q := question{
		alg: chance.Intn(4), master: checks.Bytes(chance.Intn, chance.Intn(90)), l: linkBy(chance), k: allKeys()[chance.Intn(4)],
		w: checks.Ways()[chance.Intn(8)], s: list[chance.Intn(len(list))], sne: chance.Uint32(), ids: [2]uint8{uint8(chance.Intn(256)), uint8(chance.Intn(256))},
	}
	switch chance.Intn(8) {
	case 0:
		q.k.Alg = chance.Intn(4)
	case 1:
		q.l.p.Local.Addr = checks.OtherKind(q.l.p.Local.Addr)
	case 2, 3:
		if good, e := Sign(turned(q.k), q.w.Src, q.w.Dst, q.s, q.sne); e == api.OK {
			q.s = good
		}
	}
	return q
}

// answer is all that the calls tell of it.
type answer struct {
	traffic, bytes, sign, verify api.Errno
	text                         string
}

// answers are all that the calls tell of it; the lists are told byte by byte.
func (q question) answers() answer {
	traffic, a := Traffic(q.alg, q.master, q.k.Opts, q.l.p, q.l.own, q.l.other)
	text, b := Bytes(q.w.Src, q.w.Dst, q.s, q.sne, q.k.Opts)
	s, c := Sign(q.k, q.w.Src, q.w.Dst, q.s, q.sne)
	marked := Mark(q.s, q.ids[0], q.ids[1])
	all := slices.Concat(traffic.Out, traffic.In, text, s.Data, marked.Data)
	return answer{a, b, c, Verify(q.k, q.w.Src, q.w.Dst, q.s, q.sne), brief(s) + brief(marked) + string(all)}
}

// anyList are segments that may be, and such that may not, with no long lists.
func anyList(chance *rand.Rand, n int) []api.Seg {
	list := slices.Concat(fewer(chance, n), wrongs())
	return slices.DeleteFunc(list, func(s api.Seg) bool { return len(s.Data) > 200 })
}

// R3, R7: calls in any order, and again, wrong ones among them, answer the same.
func TestAnyOrder(t *testing.T) {
	chance := rand.New(rand.NewSource(209))
	list := anyList(chance, 1000)
	many := map[api.Errno]int{}
	ask := func() question { return asked(chance, list) }
	answers := func(q question) answer {
		a := q.answers()
		many[a.verify]++
		return a
	}
	checks.Again(4000, ask, answers, func(q question, first, then answer) {
		t.Fatalf("%+v: first %+v, then %+v", q, first, then)
	})
	for _, e := range []api.Errno{api.OK, api.ErrArg, api.ErrKind, api.ErrMac} {
		if many[e] < 100 {
			t.Errorf("%v: only %d", e, many[e])
		}
	}
}

// hidden is a question whose lists have something around them, and a list of these.
func hidden(q question) (question, [][]byte) {
	lists := make([][]byte, 4)
	q.master, lists[0] = checks.Guarded(q.master)
	q.k.Out, lists[1] = checks.Guarded(q.k.Out)
	q.k.In, lists[2] = checks.Guarded(q.k.In)
	q.s.Data, lists[3] = checks.Guarded(q.s.Data)
	return q, lists
}

// R4: what is handed in stays as it was, as does what stands around it; that does not count, and nothing is kept.
func TestListsStay(t *testing.T) {
	chance := rand.New(rand.NewSource(210))
	list := anyList(chance, 1000)
	for range 4000 {
		q := asked(chance, list)
		want := q
		want.s = checks.CopiedSeg(q.s)
		q, lists := hidden(q)
		sacks := slices.Concat(q.s.Opts.Sacks, checks.With(api.Opts{}, checks.Runs(4)).Sacks)
		q.s.Opts.Sacks = sacks[:len(q.s.Opts.Sacks)]
		was, wasSacks := slices.Concat(lists...), slices.Clone(sacks)
		if got := q.answers(); got != want.answers() || !bytes.Equal(slices.Concat(lists...), was) || !slices.Equal(sacks, wasSacks) {
			t.Fatalf("%+v: %+v, or lists that were written into", want, got)
		}
		traffic, _ := Traffic(q.alg, q.master, true, q.l.p, q.l.own, q.l.other)
		text, _ := Bytes(q.w.Src, q.w.Dst, q.s, q.sne, true)
		s, _ := Sign(q.k, q.w.Src, q.w.Dst, q.s, q.sne)
		marked := Mark(q.s, 1, 2)
		for _, b := range lists {
			checks.Spoil(b)
		}
		checks.SpoilRuns(sacks)
		sameTraffic, _ := Traffic(want.alg, want.master, true, q.l.p, q.l.own, q.l.other)
		sameText, _ := Bytes(q.w.Src, q.w.Dst, want.s, q.sne, true)
		same, _ := Sign(want.k, q.w.Src, q.w.Dst, want.s, q.sne)
		if !alikeKeys(traffic, sameTraffic) || !bytes.Equal(text, sameText) || !checks.AlikeSegs(s, same) || !checks.AlikeSegs(marked, Mark(want.s, 1, 2)) {
			t.Fatalf("%+v: the lists are kept", want)
		}
	}
}

// spoil writes into a segment's lists, and behind them, as far as there is room.
func spoil(s api.Seg) {
	checks.Spoil(s.Data)
	checks.SpoilRuns(s.Opts.Sacks)
}

// R4: what is answered is the caller's, who may write into it, and behind it: that turns neither what was handed in nor another answer.
func TestAnswersAreTheCallers(t *testing.T) {
	for _, s := range fewer(rand.New(rand.NewSource(211)), 500) {
		s.Data, s.Opts.Sacks = slices.Grow(s.Data, 9), slices.Grow(s.Opts.Sacks, 4)
		data, sacks := s.Data[:cap(s.Data)], s.Opts.Sacks[:cap(s.Opts.Sacks)]
		was, wasData, wasSacks := checks.CopiedSeg(s), slices.Clone(data), slices.Clone(sacks)
		for i, k := range allKeys() {
			w := checks.Ways()[i]
			good, first, marked := signed(t, k, w, s, 1), signed(t, k, w, s, 1), Mark(s, 3, 4)
			want, text := checks.CopiedSeg(first), bytesOf(t, w, s, 1, k.Opts)
			spoil(first)
			spoil(marked)
			spoil(Mark(s, 3, 4))
			checks.Spoil(text)
			if !checks.AlikeSegs(good, want) || !checks.AlikeSegs(signed(t, k, w, was, 1), want) || !bytes.Equal(bytesOf(t, w, s, 1, k.Opts), spelt(w, was, 1, k.Opts)) {
				t.Fatalf("%s: what is answered is not the caller's", brief(was))
			}
			if !checks.AlikeSegs(s, was) || !bytes.Equal(data, wasData) || !slices.Equal(sacks, wasSacks) {
				t.Fatalf("%s: what was handed in is turned", brief(was))
			}
		}
	}
}

// R4: the traffic keys of one answer share nothing with each other, nor with the master key, also if both are the same.
func TestKeysAreTheCallers(t *testing.T) {
	same := four()
	same.p.Remote, same.other = same.p.Local, same.own
	for _, l := range []link{four(), six(), {}, same} {
		for _, alg := range algs() {
			for _, n := range []int{1, 16, 20, 80} {
				master := checks.Rising(n)
				k, want := l.keys(t, alg, master, true), l.keys(t, alg, master, true)
				in := slices.Clone(k.In)
				checks.Spoil(k.Out)
				if !bytes.Equal(k.In, in) || !bytes.Equal(master, checks.Rising(n)) {
					t.Fatalf("%v: one key turns %x to %x", l, in, k.In)
				}
				checks.Spoil(k.In)
				if got := l.keys(t, alg, master, true); !alikeKeys(got, want) || !bytes.Equal(master, checks.Rising(n)) {
					t.Fatalf("%v: %+v, not %+v", l, got, want)
				}
			}
		}
	}
}

// R6: no lists, and lists of length 0, are the same to all calls.
func TestNoLists(t *testing.T) {
	for _, s := range []api.Seg{withAO(api.Seg{}), withAO(checks.Ordinary()), checks.Choosing(checks.Full(), checks.Ordinary())} {
		empty, room := s, s
		empty.Data, empty.Opts.Sacks = []byte{}, []api.Block{}
		room.Data, room.Opts.Sacks = make([]byte, 9)[:0], make([]api.Block, 9)[:0]
		for _, k := range allKeys() {
			want := signed(t, k, checks.FourWay(), s, 1)
			for _, q := range []api.Seg{empty, room} {
				if got := signed(t, k, checks.FourWay(), q, 1); !checks.AlikeSegs(got, want) || len(got.Opts.Sacks) != 0 || !checks.AlikeSegs(Mark(q, 1, 2), Mark(s, 1, 2)) {
					t.Errorf("%s, not %s", brief(got), brief(want))
				}
				q.Opts.MAC = want.Opts.MAC
				verifies(t, "no lists", turned(k), checks.FourWay(), q, 1, api.OK)
			}
		}
	}
}
