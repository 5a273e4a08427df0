package ipfour

import (
	"bytes"
	"math/rand"
	"slices"
	"testing"

	"downhaul/api"
	"downhaul/checks"
)

// question is what all calls are asked about: two packets, and bytes.
type question struct {
	p, other api.Packet
	b        []byte
}

// told is all that the calls tell of it.
func (q question) told() [12]any {
	laid, e := Lay(q.p)
	parsed, f := Parse(q.b)
	hopped, g := Hop(q.b)
	load := string(parsed.Load)
	parsed.Load = nil
	return [12]any{May(q.p), Same(q.p, q.other), string(laid), e, parsed.Src, parsed.Dst, short(parsed), load, f, string(hopped), g}
}

// R3, R7: calls in any order, and again, wrong ones among them, answer the same.
func TestAnyOrder(t *testing.T) {
	chance := rand.New(rand.NewSource(110))
	list := slices.Concat(edges(), wrongs())
	list = slices.DeleteFunc(list, func(p api.Packet) bool { return len(p.Load) > 2000 })
	ask := func() question {
		b := laid(t, byChance(chance, 60))
		if chance.Intn(2) == 0 {
			b[chance.Intn(len(b))] ^= 1 << chance.Intn(8)
		}
		return question{list[chance.Intn(len(list))], list[chance.Intn(len(list))], b[:max(0, len(b)-chance.Intn(4))]}
	}
	checks.Again(2000, ask, question.told, func(q question, first, then [12]any) {
		t.Fatalf("%s, %x: first %q, then %q", short(q.p), q.b, first, then)
	})
}

// R6: a load that is nil, and one that is empty, are laid as one; of no bytes, nil or empty, ErrEnd is told.
func TestNoLoad(t *testing.T) {
	for _, p := range []api.Packet{ordinary(), checks.Wholly(ordinary()), checks.At(64, checks.Followed(ordinary()))} {
		q := p
		q.Load = make([]byte, 0, 10)
		if !May(p) || !May(q) || !bytes.Equal(laid(t, p), laid(t, q)) || !Same(p, q) {
			t.Errorf("%s is laid as %x, and %x", short(p), laid(t, p), laid(t, q))
		}
	}
}

// R4: what is handed in stays as it was, also behind its end; what stands there does not count, and nothing is kept.
func TestListsStay(t *testing.T) {
	chance := rand.New(rand.NewSource(111))
	for range 500 {
		p := byChance(chance, 100)
		room := slices.Concat(p.Load, checks.Bytes(chance.Intn, 100))
		was := slices.Clone(room)
		p.Load = room[:len(p.Load)]
		q := p
		q.Load = slices.Clone(p.Load)
		b := laid(t, p)
		if !Same(p, q) || !bytes.Equal(b, laid(t, q)) || !bytes.Equal(room, was) {
			t.Fatalf("%s: the load was written into, or what is behind it counts", short(p))
		}
		clear(room)
		if !bytes.Equal(b, laid(t, q)) {
			t.Fatalf("%s: the load is kept", short(q))
		}
		text := slices.Concat(b, checks.Bytes(chance.Intn, 60))
		was = slices.Clone(text)
		got := parsed(t, text[:len(b)])
		hopped, e := Hop(text[:len(b)])
		if !bytes.Equal(text, was) || !checks.Alike(got, q) {
			t.Fatalf("%s: the bytes were written into, or what is behind them counts", short(q))
		}
		clear(text)
		if !checks.Alike(got, q) || e == api.OK && !bytes.Equal(hopped, hoppedByWords(b)) {
			t.Fatalf("%s: the bytes are kept", short(q))
		}
	}
}

// R4: what is answered is the caller's, who may write into it, and behind it.
func TestAnswersAreTheCallers(t *testing.T) {
	for _, p := range edges() {
		if p.Hops < 2 || len(p.Load) > 2000 {
			continue
		}
		was := p
		was.Load = slices.Clone(p.Load)
		b := laid(t, p)
		text := slices.Clone(b)
		other := laid(t, p)
		checks.Spoil(b)
		if !checks.Alike(p, was) || !bytes.Equal(other, text) || !bytes.Equal(laid(t, p), text) {
			t.Fatalf("%s: what is laid is not the caller's", short(was))
		}
		room := slices.Concat(text, make([]byte, 50))
		first, second := parsed(t, room), parsed(t, room)
		checks.Spoil(first.Load)
		if !checks.Alike(second, was) || !bytes.Equal(room[:len(text)], text) || !bytes.Equal(room[len(text):], make([]byte, 50)) {
			t.Fatalf("%s: what is parsed is not the caller's", short(was))
		}
		one, two := hopped(t, room), hopped(t, room)
		checks.Spoil(one)
		if !bytes.Equal(two, hoppedByWords(room)) || !bytes.Equal(room[:len(text)], text) || !bytes.Equal(room[len(text):], make([]byte, 50)) {
			t.Fatalf("%s: what hopped is not the caller's", short(was))
		}
	}
}
