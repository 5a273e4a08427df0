package opts

import (
	"bytes"
	"math/rand"
	"slices"
	"testing"

	"downhaul/api"
	"downhaul/checks"
)

// question is what all calls are asked about.
type question struct {
	o, other api.Opts
	b        []byte
}

// answers are all that the calls tell of it.
func (q question) answers() [11]any {
	laid, e := Lay(q.o)
	got, f := Parse(q.b)
	return [11]any{May(q.o), string(laid), e, short(got), f, Same(q.o, q.other), Same(q.other, q.other), Size(q.o), short(Bare(q.o)), short(Fit(q.o)), len(Fit(q.o).Sacks)}
}

// R3, R7: calls in any order, and again, wrong ones among them, answer the same.
func TestAnyOrder(t *testing.T) {
	chance := rand.New(rand.NewSource(130))
	list := tried(chance, 2000)
	ask := func() question {
		return question{list[chance.Intn(len(list))], list[chance.Intn(len(list))], someBytes(chance)}
	}
	checks.Again(5000, ask, question.answers, func(q question, first, then [11]any) {
		t.Fatalf("%s, %x: first %v, then %v", short(q.o), q.b, first, then)
	})
}

// R4: what is handed in stays as it was, also behind its end; what stands there does not count, and nothing is kept.
func TestListsStay(t *testing.T) {
	chance := rand.New(rand.NewSource(131))
	for _, o := range tried(chance, 5000) {
		if len(o.Sacks) > 100 {
			continue
		}
		room := slices.Concat(o.Sacks, checks.With(api.Opts{}, checks.Runs(6)).Sacks)
		was := slices.Clone(room)
		want := o
		want.Sacks = slices.Clone(o.Sacks)
		o.Sacks = room[:len(o.Sacks)]
		b, e := Lay(o)
		fit, bare := Fit(o), Bare(o)
		if May(o) != may(want) || Size(o) != len(checks.OptionBytes(want)) || !Same(o, want) || !Same(want, o) || !slices.Equal(room, was) {
			t.Fatalf("%s: the Sacks were written into, or what is behind them counts", short(want))
		}
		clear(room)
		if (e == api.OK) != may(want) || e == api.OK && !bytes.Equal(b, checks.OptionBytes(want)) || !alike(fit, fitByWords(want)) || !alike(bare, Bare(want)) {
			t.Fatalf("%s: the Sacks are kept", short(want))
		}
	}
	for range 5000 {
		b := someBytes(chance)
		room := slices.Concat(b, checks.Bytes(chance.Intn, 50))
		was := slices.Clone(room)
		got, e := Parse(room[:len(b)])
		want, f := wanted(b)
		if !bytes.Equal(room, was) || e != f {
			t.Fatalf("%x: the bytes were written into, or what is behind them counts", b)
		}
		clear(room)
		if !alike(got, want) {
			t.Fatalf("%x: the bytes are kept", b)
		}
	}
}

// R4: what is answered is the caller's, who may write into it, and behind it.
func TestAnswersAreTheCallers(t *testing.T) {
	for _, o := range edges() {
		was := o
		was.Sacks = slices.Clone(o.Sacks)
		text := checks.OptionBytes(o)
		one, two := laid(t, o), laid(t, o)
		checks.Spoil(one)
		if !alike(o, was) || !bytes.Equal(two, text) || !bytes.Equal(laid(t, o), text) {
			t.Fatalf("%s: what is laid is not the caller's", short(was))
		}
		room := append(slices.Clone(text), 0, 1, 2)[:len(text)]
		first, second := parsed(t, room), parsed(t, room)
		checks.SpoilRuns(first.Sacks)
		if !alike(second, was) || !bytes.Equal(room[:len(text)+3], append(slices.Clone(text), 0, 1, 2)) || !alike(parsed(t, room), was) {
			t.Fatalf("%s: what is parsed is not the caller's", short(was))
		}
	}
	for _, o := range append(sets(), checks.With(checks.Full(), checks.Runs(100)), checks.With(api.Opts{}, checks.Runs(5)), checks.With(api.Opts{}, checks.Runs(100))) {
		o.Sacks = slices.Grow(o.Sacks, 4)
		was := o
		was.Sacks = slices.Clone(o.Sacks)
		behind := o.Sacks[:cap(o.Sacks)]
		kept := slices.Clone(behind)
		one, two := Fit(o), Fit(o)
		checks.SpoilRuns(one.Sacks)
		if !alike(o, was) || !slices.Equal(behind, kept) || !alike(two, fitByWords(was)) {
			t.Fatalf("%s: what fits is not the caller's", short(was))
		}
	}
}

// R1, R7: beside an error there is nothing, neither bytes nor options, and what went before an error in the bytes is not told.
func TestNothingBesideErrors(t *testing.T) {
	for _, o := range wrongs() {
		if b, e := Lay(o); b != nil || e != api.ErrArg {
			t.Errorf("Lay(%s) = %x, %v", short(o), b, e)
		}
	}
	ahead := slices.Concat(option(2, 4), option(3, 3), option(8, 10))
	for _, wrong := range [][]byte{{4}, {4, 0}, {4, 1}, {4, 3}, {4, 3, 0}, {5, 2}, {5, 9, 1, 1, 1, 1, 1, 1, 1}, option(2, 4), option(3, 3), option(8, 10), make([]byte, 24), {29, 16, 1, 1}} {
		want := api.ErrForm
		if wrong[0] == 2 || wrong[0] == 3 || wrong[0] == 8 {
			want = api.ErrThere
		}
		refuse(t, "behind others", slices.Concat(ahead, wrong), want)
	}
	for _, b := range [][]byte{slices.Concat(option(5, 18), []byte{5, 10, 0, 0, 0, 0, 0, 0, 0, 0}), slices.Concat(option(29, 16), option(29, 16)), slices.Concat(option(29, 16), []byte{29})} {
		if o, e := Parse(b); e == api.OK || o.Sacks != nil || o.HasAO || !alike(o, api.Opts{}) {
			t.Errorf("Parse(%x) = %s, %v", b, short(o), e)
		}
	}
}
