package frag

import (
	"math"
	"slices"
	"testing"

	"downhaul/api"
	"downhaul/checks"
)

// first is the piece at Off 0 of the packet with an Id.
func first(six bool, id uint32) api.Packet { return checks.Numbered(id, piece(six, 0, 8, true)) }

// last is the last piece of it.
func last(six bool, id uint32) api.Packet { return checks.Numbered(id, piece(six, 8, 3, false)) }

// added adds a piece at a time, which waits.
func added(t *testing.T, tab *Table, now int64, p api.Packet) {
	t.Helper()
	if got, ok, e := tab.Add(now, p); ok || e != api.OK || !checks.Nothing(got) {
		t.Errorf("Add(%d, %s) = %s, %t, %v", now, short(p), short(got), ok, e)
	}
}

// checkOver holds that those of these Ids go, in order.
func checkOver(t *testing.T, what string, tab *Table, now int64, left int, ids ...uint32) {
	t.Helper()
	var got []uint32
	for _, p := range tab.Over(now) {
		got = append(got, p.Id)
	}
	if !slices.Equal(got, ids) || tab.Len() != left {
		t.Errorf("%s: Over(%d): %d, and %d packets; not %d, and %d", what, now, got, tab.Len(), ids, left)
	}
}

// there are the Ids of the packets whose pieces at Off 0 are there, as they began; the table has none then.
func there(tab *Table) []uint32 {
	var got []uint32
	for _, p := range tab.Over(tab.Now() + Wait + 1) {
		got = append(got, p.Id)
	}
	return got
}

// P15.4: a packet is there for 30000, whatever comes of it, and goes at 30001, with its piece at Off 0.
func TestOver(t *testing.T) {
	if Wait != 30000 {
		t.Error(Wait)
	}
	for _, six := range both() {
		for _, began := range []int64{0, 1, 77, 30000, 30001, 1 << 39, 1<<40 - 30001} {
			tab := table(t, 2)
			added(t, tab, began, first(six, 5))
			added(t, tab, began+29999, checks.Numbered(5, piece(six, 16, 8, true)))
			added(t, tab, began+30000, first(six, 5))
			checkOver(t, "at once", tab, began, 1)
			checkOver(t, "in time", tab, began+30000, 1)
			got := tab.Over(began + 30001)
			if !allAlike(got, []api.Packet{first(six, 5)}) || tab.Len() != 0 || tab.Now() != began+30001 {
				t.Errorf("of %d: %v, %d packets, at %d", began, got, tab.Len(), tab.Now())
			}
			checkOver(t, "again", tab, began+30001, 0)
		}
	}
}

// P15.4: what goes is its piece at Off 0, with all its fields, as it came first; without one it goes, and nothing is told.
func TestFirstPieces(t *testing.T) {
	for _, six := range both() {
		for _, n := range []int{8, 16, 1480, 65496} {
			p := checks.Hopping(7, checks.Numbered(0xFEDC, piece(six, 0, n, true)))
			again := checks.With(p, func(p *api.Packet) { p.Hops, p.Load = 9, make([]byte, n) })
			behind := checks.Numbered(0xFEDC, piece(six, n+8, 2, false))
			for _, list := range [][]api.Packet{{p, again, behind}, {again, p, behind}, {behind, p, again}, {p, behind, again}} {
				want := list[0]
				if want.Off > 0 {
					want = list[1]
				}
				tab := table(t, 1)
				for _, q := range list {
					added(t, tab, 0, q)
				}
				if got := tab.Over(30001); !allAlike(got, []api.Packet{want}) || tab.Len() != 0 {
					t.Errorf("%d bytes: %d, not %s; %d packets", n, len(got), short(want), tab.Len())
				}
			}
		}
		for _, p := range []api.Packet{piece(six, 8, 8, true), piece(six, 8, 1, false), piece(six, 65504, 8, false)} {
			tab := table(t, 1)
			added(t, tab, 0, p)
			checkOver(t, "in time", tab, 30000, 1)
			checkOver(t, "without a piece at Off 0", tab, 30001, 0)
			// It may begin anew.
			added(t, tab, 30001, first(six, 0x1234))
			added(t, tab, 30001, checks.Numbered(0x1234, piece(six, 16, 8, true)))
			checkOver(t, "anew", tab, 60001, 1)
			checkOver(t, "anew", tab, 60002, 0, 0x1234)
		}
	}
}

// P15.4: of several packets just those go that wait too long, in the order in which they began; those without a piece at Off 0 are not told.
func TestOverOfSome(t *testing.T) {
	for _, six := range both() {
		tab := table(t, 64)
		for i, id := range []uint32{40, 3, 17, 900, 2, 65535} {
			added(t, tab, int64(10*i), first(six, id))
			added(t, tab, int64(10*i), last(six, id^0x8000))
		}
		for _, id := range []uint32{40, 3} {
			if _, ok, e := tab.Add(60, first(six, id^0x8000)); !ok || e != api.OK {
				t.Errorf("%d does not come together", id)
			}
		}
		checkOver(t, "none", tab, 30000, 10)
		checkOver(t, "one", tab, 30001, 9, 40)
		checkOver(t, "no more", tab, 30010, 9)
		checkOver(t, "some", tab, 30031, 4, 3, 17, 900)
		added(t, tab, 30031, first(six, 3))
		checkOver(t, "all of before", tab, 60000, 1, 2, 65535)
		checkOver(t, "the one that began anew", tab, 60032, 0, 3)
	}
}

// P15.4: of packets that began at one time the one that was there longest is told first.
func TestOverOfOneTime(t *testing.T) {
	tab := table(t, 64)
	var want []uint32
	for i := range uint32(64) {
		id := i * 37 % 64
		want = append(want, id)
		added(t, tab, 9, first(i%3 == 0, id))
	}
	checkOver(t, "in time", tab, 30009, 64)
	checkOver(t, "all", tab, 30010, 0, want...)
}

// P15.3, P15.7: in a table that is full a further packet lets that go which began first, whatever came of it since; of those that began at one time the one that was there longest.
func TestRoom(t *testing.T) {
	for _, six := range both() {
		for _, room := range []int{1, 2, 3, 63, 64} {
			for _, pause := range []int64{0, 1, 100} {
				tab := table(t, room)
				var want []uint32
				for i := range uint32(3 * room) {
					id := 2000 - i*7
					added(t, tab, pause*int64(i), first(six, id))
					// What comes of one that is there lets none go, and makes it no younger.
					if want = append(want, id); len(want) > room {
						want = want[1:]
					}
					added(t, tab, pause*int64(i), checks.Numbered(want[0], piece(six, 24, 8, true)))
					added(t, tab, pause*int64(i), first(six, want[0]))
					if tab.Len() != len(want) {
						t.Fatalf("room %d: %d packets, not %d", room, tab.Len(), len(want))
					}
				}
				if got := there(tab); !slices.Equal(got, want) {
					t.Errorf("room %d: %d, not %d", room, got, want)
				}
			}
		}
	}
}

// P15.3: what is let go for another one is gone: its last piece begins it anew, and lets the next one go.
func TestLetGo(t *testing.T) {
	for _, six := range both() {
		tab := table(t, 2)
		added(t, tab, 1, first(six, 1))
		added(t, tab, 2, first(six, 2))
		added(t, tab, 3, first(six, 3)) // 1 goes
		added(t, tab, 4, last(six, 1))  // 2 goes
		added(t, tab, 5, last(six, 2))  // 3 goes
		if got, ok, _ := tab.Add(6, first(six, 1)); !ok || len(got.Load) != 11 || tab.Len() != 1 {
			t.Errorf("%s, %t, %d packets", short(got), ok, tab.Len())
		}
		added(t, tab, 7, last(six, 3))
		if got := there(tab); got != nil {
			t.Errorf("%d at Off 0", got)
		}
	}
}

// P15.3: what came together, or was let go by an error, leaves room; a whole packet, and what is wrong, takes none.
func TestRoomLeft(t *testing.T) {
	for _, six := range both() {
		tab := table(t, 2)
		added(t, tab, 0, first(six, 1))
		added(t, tab, 0, first(six, 2))
		comes(t, "whole", tab, piece(six, 0, 9, false), made(six, 9), 2)
		fails(t, "no load", tab, checks.Numbered(7, piece(six, 8, 0, false)), api.ErrForm, 2)
		fails(t, "an odd Off", tab, checks.Numbered(7, piece(six, 9, 1, false)), api.ErrForm, 2)
		tab.Add(0, last(six, 1))
		added(t, tab, 0, first(six, 3))
		fails(t, "overlaps", tab, checks.Numbered(2, piece(six, 0, 16, true)), api.ErrForm, 1)
		added(t, tab, 0, first(six, 1))
		if got := there(tab); !slices.Equal(got, []uint32{3, 1}) {
			t.Error(got)
		}
	}
}

// P15.3, P15.4: times that are none, and earlier ones, count as the table's own.
func TestTimes(t *testing.T) {
	for _, six := range both() {
		for _, now := range []int64{-1, -30001, math.MinInt64, 1<<40 + 1, 1<<40 + 30001, 1 << 62, math.MaxInt64, 0, 1, 999, 1000} {
			tab := table(t, 3)
			added(t, tab, 1000, first(six, 1))
			added(t, tab, now, first(six, 2))
			if tab.Now() != 1000 {
				t.Errorf("Add at %d: %d", now, tab.Now())
			}
			checkOver(t, "that time", tab, now, 2)
			if tab.Now() != 1000 {
				t.Errorf("Over at %d: %d", now, tab.Now())
			}
			checkOver(t, "in time", tab, 31000, 2)
			checkOver(t, "a time that is none", tab, now, 2)
			added(t, tab, now, first(six, 3))
			checkOver(t, "late", tab, 31001, 1, 1, 2)
			checkOver(t, "one more", tab, 61001, 0, 3)
		}
	}
}

// P15.3, P15.4: the greatest time is one, and there is none behind it.
func TestGreatestTime(t *testing.T) {
	for _, six := range both() {
		tab := table(t, 3)
		added(t, tab, api.MaxTime-30001, first(six, 1))
		added(t, tab, api.MaxTime-30000, first(six, 2))
		checkOver(t, "none", tab, api.MaxTime-1, 2)
		checkOver(t, "above", tab, api.MaxTime+1, 2)
		if tab.Now() != 1<<40-1 {
			t.Error(tab.Now())
		}
		checkOver(t, "the greatest", tab, api.MaxTime, 1, 1)
		checkOver(t, "again", tab, api.MaxTime, 1)
		checkOver(t, "above", tab, api.MaxTime+1, 1)
		checkOver(t, "far above", tab, math.MaxInt64, 1)
		added(t, tab, api.MaxTime, first(six, 3))
		checkOver(t, "earlier", tab, 0, 2)
		if tab.Now() != 1<<40 {
			t.Error(tab.Now())
		}
	}
}

// P15.3, P15.4: each call tells the time, also one that answers an error, or does nothing; Len and Now don't.
func TestEachCallTellsTime(t *testing.T) {
	for _, six := range both() {
		tab := filled(t, six, true)
		now := int64(0)
		for _, c := range []struct {
			what string
			p    api.Packet
			e    api.Errno
		}{
			{"what may not be", checks.At(9, piece(six, 0, 8, true)), api.ErrForm},
			{"no load", piece(six, 8, 0, true), api.ErrForm},
			{"whole", piece(six, 0, 8, false), api.OK},
			{"again", piece(six, 8, 8, true), api.OK},
			{"too many", piece(six, 0, 8, true), api.ErrMany},
			{"first", piece(six, 0, 8, true), api.OK},
			{"overlaps", piece(six, 0, 16, true), api.ErrForm},
			{"first", piece(six, 0, 8, true), api.OK},
			{"last", piece(six, 8, 1, false), api.OK},
		} {
			now += 100
			if _, _, e := tab.Add(now, c.p); e != c.e || tab.Now() != now {
				t.Errorf("%s: %v, at %d, not %v, at %d", c.what, e, tab.Now(), c.e, now)
			}
			if tab.Len() > 1 || tab.Now() != now {
				t.Errorf("%s: at %d", c.what, tab.Now())
			}
		}
		if tab.Over(now + 5); tab.Now() != now+5 {
			t.Error(tab.Now())
		}
		// A packet begins at the time that a wrong call told.
		tab.Add(50000, api.Packet{More: true})
		added(t, tab, 20000, first(six, 1))
		checkOver(t, "in time", tab, 80000, 1)
		checkOver(t, "late", tab, 80001, 0, 1)
	}
}
