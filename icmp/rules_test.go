package icmp

import (
	"bytes"
	"math/rand"
	"slices"
	"testing"

	"downhaul/checks"
)

// question is what all calls are asked about.
type question struct {
	w        checks.Way
	m, other Msg
	b        []byte
	kind     int
}

// asked is a question by chance, of messages that may be, and such that may not.
func asked(chance *rand.Rand, list []Msg) question {
	ways := checks.Ways()
	w := ways[chance.Intn(len(ways))]
	m := list[chance.Intn(len(list))]
	other := list[chance.Intn(len(list))]
	if chance.Intn(2) == 0 {
		other = copied(m)
	}
	return question{w, m, other, someBytes(chance, w), chance.Intn(8) - 1}
}

// made are the bytes and the messages that the calls make of it.
func (q question) made() ([]byte, [3]Msg) {
	laid, _ := Lay(q.m, q.w.Src, q.w.Dst)
	parsed, _ := Parse(q.b, q.w.Src, q.w.Dst)
	reply, _ := Reply(q.m)
	return laid, [3]Msg{parsed, reply, About(q.kind, q.b, q.w.Src.Six)}
}

// answers are all that the calls tell of it.
func (q question) answers() [13]any {
	laid, messages := q.made()
	_, e := Lay(q.m, q.w.Src, q.w.Dst)
	_, f := Parse(q.b, q.w.Src, q.w.Dst)
	_, ok := Reply(q.m)
	told := [13]any{May(q.m, false), May(q.m, true), Same(q.m, q.other), string(laid), e, f, ok}
	for i, m := range messages {
		told[7+2*i], told[8+2*i] = brief(m), string(m.Data)
	}
	return told
}

// fewer are messages that may be, and such that may not, with no more data than may be, and a little.
func fewer(chance *rand.Rand, n int) []Msg {
	list := slices.Concat(tried(chance, false, n), tried(chance, true, n), wrongs(false), wrongs(true))
	return slices.DeleteFunc(list, func(m Msg) bool { return len(m.Data) > 1500 })
}

// R3, R7: calls in any order, and again, wrong ones among them, answer the same.
func TestAnyOrder(t *testing.T) {
	chance := rand.New(rand.NewSource(152))
	list := fewer(chance, 1000)
	ask := func() question { return asked(chance, list) }
	checks.Again(5000, ask, question.answers, func(q question, first, then [13]any) {
		t.Fatalf("%s, %x: first %v, then %v", brief(q.m), q.b, first, then)
	})
}

// R6: no data, and data of length 0, are the same to all calls.
func TestNoData(t *testing.T) {
	for kind := 0; kind <= 6; kind++ {
		m := of(kind)
		empty, room := m, m
		empty.Data, room.Data = []byte{}, make([]byte, 9)[:0]
		list := []Msg{m, empty, room}
		for _, a := range list {
			for _, b := range list {
				one, ok := Reply(a)
				two, fine := Reply(b)
				if !Same(a, b) || May(a, false) != May(b, false) || May(a, true) != May(b, true) || !alike(one, two) || ok != fine {
					t.Errorf("%s: no data is not the same as data of length 0", brief(m))
				}
				for _, w := range checks.Ways()[:2] {
					one, e := Lay(a, w.Src, w.Dst)
					two, f := Lay(b, w.Src, w.Dst)
					if !bytes.Equal(one, two) || e != f {
						t.Errorf("%s: no data is not laid as data of length 0", brief(m))
					}
				}
				if !alike(About(kind, a.Data, true), About(kind, b.Data, true)) {
					t.Errorf("%d: no packet is not the same as one of length 0", kind)
				}
			}
		}
	}
}

// R4: what is handed in stays as it was, also behind its end; what stands there does not count, and nothing is kept.
func TestListsStay(t *testing.T) {
	chance := rand.New(rand.NewSource(153))
	list := fewer(chance, 2000)
	for range 5000 {
		q := asked(chance, list)
		want := q
		want.m, want.b = copied(q.m), slices.Clone(q.b)
		data := slices.Concat(q.m.Data, checks.Bytes(chance.Intn, 20))
		text := slices.Concat(q.b, checks.Bytes(chance.Intn, 20))
		q.m.Data, q.b = data[:len(q.m.Data)], text[:len(q.b)]
		wasData, wasText := slices.Clone(data), slices.Clone(text)
		laid, messages := q.made()
		if q.answers() != want.answers() || !Same(q.m, want.m) || !Same(want.m, q.m) {
			t.Fatalf("%s: what is behind the lists counts", brief(want.m))
		}
		if !bytes.Equal(data, wasData) || !bytes.Equal(text, wasText) {
			t.Fatalf("%s: the lists were written into", brief(want.m))
		}
		clear(data)
		clear(text)
		again, others := want.made()
		if !bytes.Equal(laid, again) || !slices.EqualFunc(messages[:], others[:], alike) {
			t.Fatalf("%s: the lists are kept", brief(want.m))
		}
	}
}

// R4: what is answered is the caller's, who may write into it, and behind it.
func TestAnswersAreTheCallers(t *testing.T) {
	for _, w := range checks.Ways()[:2] {
		for _, m := range tried(rand.New(rand.NewSource(154)), w.Src.Six, 500) {
			m.Data = slices.Grow(m.Data, 9)
			was, room := copied(m), slices.Clone(m.Data[:cap(m.Data)])
			text := spelt(w, m)
			one, two := laid(t, w, m), laid(t, w, m)
			checks.Spoil(one)
			if !bytes.Equal(two, text) || !bytes.Equal(laid(t, w, m), text) {
				t.Fatalf("%s: what is laid is not the caller's", brief(was))
			}
			long := slices.Concat(text, []byte{1, 2, 3})
			first, second := parsed(t, w, long[:len(text)]), parsed(t, w, long[:len(text)])
			checks.Spoil(first.Data)
			if !alike(second, was) || !bytes.Equal(long, slices.Concat(text, []byte{1, 2, 3})) {
				t.Fatalf("%s: what is parsed is not the caller's", brief(was))
			}
			reply, _ := Reply(m)
			checks.Spoil(reply.Data)
			for kind := 3; kind <= 5; kind++ {
				about, other := About(kind, m.Data, true), About(kind, m.Data, true)
				checks.Spoil(about.Data)
				if !bytes.Equal(other.Data, was.Data[:min(len(was.Data), 1232)]) {
					t.Fatalf("%s: what is told about a packet is not the caller's", brief(was))
				}
			}
			if !alike(m, was) || !bytes.Equal(m.Data[:cap(m.Data)], room) {
				t.Fatalf("%s: what was handed in is written into by what was answered", brief(was))
			}
		}
	}
}
