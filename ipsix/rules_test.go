package ipsix

import (
	"bytes"
	"math/rand"
	"slices"
	"testing"

	"downhaul/api"
	"downhaul/checks"
)

// question is what all calls are asked about.
type question struct {
	p    api.Packet
	b    []byte
	next byte
	load []byte
}

// told is all that the calls tell of it.
func (q question) told() [11]any {
	laid, e := Lay(q.p)
	p, f := Parse(q.b)
	hopped, g := Hop(q.b)
	wrapped, h := Wrap(q.b, q.next, q.load)
	load := string(p.Load)
	return [11]any{May(q.p), string(laid), e, short(p), load, f, string(hopped), g, string(wrapped), h}
}

// R3, R7: calls in any order, and again, wrong ones among them, answer the same.
func TestAnyOrder(t *testing.T) {
	chance := rand.New(rand.NewSource(122))
	list := slices.Concat(edges(), wrongs())
	list = slices.DeleteFunc(list, func(p api.Packet) bool { return len(p.Load) > 2000 })
	ask := func() question {
		q := question{list[chance.Intn(len(list))], someBytes(chance), lengthy[chance.Intn(3)], make([]byte, 6+4*chance.Intn(3))}
		if chance.Intn(2) == 0 {
			q.b = laid(t, byChance(chance, 60))
		}
		return q
	}
	checks.Again(2000, ask, question.told, func(q question, first, then [11]any) {
		t.Fatalf("%s, %x: first %q, then %q", short(q.p), q.b, first, then)
	})
}

// R4: what is handed in stays as it was, also behind its end; what stands there does not count, and nothing is kept.
func TestListsStay(t *testing.T) {
	chance := rand.New(rand.NewSource(123))
	for range 500 {
		p := byChance(chance, 100)
		room := slices.Concat(p.Load, checks.Bytes(chance.Intn, 100))
		was := slices.Clone(room)
		p.Load = room[:len(p.Load)]
		q := p
		q.Load = slices.Clone(p.Load)
		b := laid(t, p)
		if !bytes.Equal(b, laid(t, q)) || !bytes.Equal(room, was) {
			t.Fatalf("%s: the load was written into, or what is behind it counts", short(p))
		}
		clear(room)
		if !bytes.Equal(b, spelt(q)) {
			t.Fatalf("%s: the load is kept", short(q))
		}
		text := slices.Concat(b, checks.Bytes(chance.Intn, 60))
		more := checks.Bytes(chance.Intn, 100)
		was, wasMore := slices.Clone(text), slices.Clone(more)
		got := parsed(t, text[:len(b)])
		hopped, e := Hop(text[:len(b)])
		wrapped, f := Wrap(text[:len(b)], 60, more[:14])
		if !bytes.Equal(text, was) || !bytes.Equal(more, wasMore) || !checks.Alike(got, q) {
			t.Fatalf("%s: the bytes were written into, or what is behind them counts", short(q))
		}
		clear(text)
		clear(more)
		if want, _ := wrappedByWords(b, 60, wasMore[:14]); !bytes.Equal(wrapped, want) || (f == api.OK) != q.Whole {
			t.Fatalf("%s: the bytes are kept, wrapped", short(q))
		}
		if !checks.Alike(got, q) || e == api.OK && !bytes.Equal(hopped, hoppedByWords(b)) {
			t.Fatalf("%s: the bytes are kept", short(q))
		}
	}
}

// R4: what is answered is the caller's, who may write into it, and behind it.
func TestAnswersAreTheCallers(t *testing.T) {
	for _, p := range edges() {
		if p.Hops < 2 || len(p.Load) > 2000 {
			continue
		}
		was := p
		was.Load = slices.Clone(p.Load)
		b := laid(t, p)
		text := slices.Clone(b)
		other := laid(t, p)
		checks.Spoil(b)
		if !checks.Alike(p, was) || !bytes.Equal(other, text) || !bytes.Equal(laid(t, p), text) {
			t.Fatalf("%s: what is laid is not the caller's", short(was))
		}
		room := slices.Concat(text, make([]byte, 50))
		kept := slices.Clone(room)
		first, second := parsed(t, room), parsed(t, room)
		checks.Spoil(first.Load)
		if !checks.Alike(second, was) || !bytes.Equal(room, kept) {
			t.Fatalf("%s: what is parsed is not the caller's", short(was))
		}
		one, two := hopped(t, room), hopped(t, room)
		checks.Spoil(one)
		if !bytes.Equal(two, hoppedByWords(room)) || !bytes.Equal(room, kept) {
			t.Fatalf("%s: what hopped is not the caller's", short(was))
		}
		if !p.Whole {
			continue
		}
		load := checks.Rising(14)
		one, two = wrapped(t, room, 43, load), wrapped(t, room, 43, load)
		checks.Spoil(one)
		if want, _ := wrappedByWords(kept, 43, checks.Rising(14)); !bytes.Equal(two, want) || !bytes.Equal(room, kept) || !bytes.Equal(load, checks.Rising(14)) {
			t.Fatalf("%s: what is wrapped is not the caller's", short(was))
		}
	}
}
