package opts

import (
	"math/rand"
	"slices"
	"testing"

	"downhaul/api"
	"downhaul/checks"
)

// fitByWords are options with as many of their first Sacks as fit, by the chapter's words.
func fitByWords(o api.Opts) api.Opts {
	for n := 4; n > 0; n-- {
		less := o
		less.Sacks = o.Sacks[:min(n, len(o.Sacks))]
		if len(checks.OptionBytes(less)) <= 40 {
			return less
		}
	}
	o.Sacks = nil
	return o
}

// P12.3: AO alone, whose MAC is 0: of options without it, with it, and of such that may not be.
func TestBare(t *testing.T) {
	p := checks.Kinds()
	steep := func(o *api.Opts) { o.HasScale, o.Scale = true, 255 }
	for _, c := range []struct{ o, want api.Opts }{
		{api.Opts{}, api.Opts{}},
		{checks.With(api.Opts{}, p[0], p[1], p[2], p[3]), api.Opts{}},
		{checks.With(api.Opts{}, p[0], p[2], checks.Runs(4)), api.Opts{}},
		{checks.With(api.Opts{}, p[4]), api.Opts{HasAO: true, KeyID: 61, NextID: 84}},
		{checks.Full(), api.Opts{HasAO: true, KeyID: 61, NextID: 84}},
		{checks.With(checks.Full(), checks.Runs(4)), api.Opts{HasAO: true, KeyID: 61, NextID: 84}},
		{checks.With(checks.Full(), checks.Runs(100), steep), api.Opts{HasAO: true, KeyID: 61, NextID: 84}},
		{checks.With(api.Opts{}, checks.Runs(100), steep), api.Opts{}},
		{api.Opts{HasAO: true}, api.Opts{HasAO: true}},
		{api.Opts{HasAO: true, KeyID: 255}, api.Opts{HasAO: true, KeyID: 255}},
		{api.Opts{HasAO: true, NextID: 255}, api.Opts{HasAO: true, NextID: 255}},
		{api.Opts{HasAO: true, MAC: checks.MAC()}, api.Opts{HasAO: true}},
		// What they do not have is none of theirs.
		{api.Opts{KeyID: 5}, api.Opts{}},
		{api.Opts{NextID: 5}, api.Opts{}},
		{api.Opts{MAC: checks.MAC()}, api.Opts{}},
		{api.Opts{MSS: 9, Scale: 99, Val: 9, Echo: 9, KeyID: 9, NextID: 9, MAC: checks.MAC()}, api.Opts{}},
		{api.Opts{MSS: 9, Scale: 99, Val: 9, Echo: 9, HasAO: true, KeyID: 8, NextID: 9, MAC: checks.MAC()}, api.Opts{HasAO: true, KeyID: 8, NextID: 9}},
	} {
		if got := Bare(c.o); !alike(got, c.want) || !May(got) {
			t.Errorf("Bare(%s) = %s", short(c.o), short(got))
		}
	}
	for _, o := range tried(rand.New(rand.NewSource(128)), 20000) {
		var want api.Opts
		if o.HasAO {
			want.HasAO, want.KeyID, want.NextID = o.HasAO, o.KeyID, o.NextID
		}
		got := Bare(o)
		if !alike(got, want) || !May(got) || !alike(Bare(got), got) || Size(got) != 0 && Size(got) != 16 {
			t.Fatalf("Bare(%s) = %s", short(o), short(got))
		}
	}
}

// P12.3: how many Sacks fit beside what else there is: all of them, some, and none.
func TestFit(t *testing.T) {
	p := checks.Kinds()
	for _, c := range []struct {
		o    api.Opts
		many int // of a hundred
	}{
		{checks.With(api.Opts{}), 4},
		{checks.With(api.Opts{}, p[0]), 4},
		{checks.With(api.Opts{}, p[0], p[2]), 4}, // just 40 bytes
		{checks.With(api.Opts{}, p[1], p[2]), 4},
		{checks.With(api.Opts{}, p[0], p[1]), 3}, // with four 41
		{checks.With(api.Opts{}, p[3]), 3},
		{checks.With(api.Opts{}, p[3], p[0]), 3},       // just 40
		{checks.With(api.Opts{}, p[3], p[1], p[2]), 2}, // with three 41
		{checks.With(api.Opts{}, p[3], p[0], p[1], p[2]), 2},
		{checks.With(api.Opts{}, p[4]), 2},
		{checks.With(api.Opts{}, p[4], p[0], p[2]), 2}, // just 40
		{checks.With(api.Opts{}, p[4], p[0], p[1]), 1},
		{checks.With(api.Opts{}, p[4], p[3]), 1},       // as the document's fourth example has it
		{checks.With(api.Opts{}, p[4], p[3], p[0]), 1}, // just 40
		{checks.With(api.Opts{}, p[4], p[3], p[1]), 1},
		{checks.With(api.Opts{}, p[4], p[3], p[2]), 1},
		{checks.With(api.Opts{}, p[4], p[3], p[1], p[2]), 0}, // with one 41
		{checks.With(api.Opts{}, p[4], p[3], p[0], p[2]), 0},
		{checks.Full(), 0},
	} {
		for n := range 101 {
			o := checks.With(c.o, checks.Runs(n))
			want := checks.With(c.o, func(q *api.Opts) { q.Sacks = o.Sacks[:min(n, c.many)] })
			if got := Fit(o); !alike(got, want) || !May(got) {
				t.Fatalf("Fit(%s) = %s", short(o), short(got))
			}
		}
	}
}

// P12.3, P12.6: as many of the first Sacks as fit, and all else as it is, also of options that may not be; what fits may be, if it may but for its Sacks, and fits as it is.
func TestFitByWords(t *testing.T) {
	chance := rand.New(rand.NewSource(129))
	list := tried(chance, 50000)
	for _, o := range slices.Concat(sets(), wrongs()) {
		list = append(list, checks.With(o, checks.Runs(1)), checks.With(o, checks.Runs(4)), checks.With(o, checks.Runs(5)), checks.With(o, checks.Runs(33)))
	}
	many := map[int]int{}
	for _, o := range list {
		got := Fit(o)
		if !alike(got, fitByWords(o)) || !alike(Fit(got), got) || Size(got) > 40 {
			t.Fatalf("Fit(%s) = %s", short(o), short(got))
		}
		bare := o
		bare.Sacks = nil
		if May(got) != may(bare) || May(o) && !alike(got, o) {
			t.Fatalf("Fit(%s) = %s; May %t", short(o), short(got), May(got))
		}
		if n := len(got.Sacks); n < len(o.Sacks) && n < 4 {
			one := checks.With(got, func(q *api.Opts) { q.Sacks = o.Sacks[:n+1] })
			if Size(one) <= 40 {
				t.Fatalf("Fit(%s) = %s, and one more fits", short(o), short(got))
			}
		}
		many[len(got.Sacks)]++
	}
	for n := range 5 {
		if many[n] < 500 {
			t.Errorf("%d Sacks: only %d", n, many[n])
		}
	}
}

// P12.3: what options have without their Sacks never is more than 40 bytes, so that what fits is never too long.
func TestFitOfMost(t *testing.T) {
	for _, o := range sets() {
		for _, n := range []int{0, 1, 4, 5, 100, 1 << 16} {
			got := Fit(checks.With(o, checks.Runs(n)))
			if Size(got) > 40 || len(got.Sacks) > 4 || !May(got) {
				t.Errorf("Fit of %d Sacks: %s", n, short(got))
			}
		}
	}
	if got := Fit(checks.With(checks.Full(), checks.Runs(100))); len(got.Sacks) != 0 || Size(got) != 36 {
		t.Error(short(got))
	}
}

// R4, R6: no Sacks fit as none, whatever room there is behind them.
func TestFitOfNone(t *testing.T) {
	for _, o := range []api.Opts{{}, checks.Full(), {SackOK: true}, {MSS: 5}} {
		for _, none := range [][]api.Block{nil, {}, make([]api.Block, 9)[:0]} {
			o.Sacks = none
			if got := Fit(o); len(got.Sacks) != 0 || !alike(got, o) {
				t.Errorf("Fit(%s) = %s", short(o), short(got))
			}
		}
	}
}
