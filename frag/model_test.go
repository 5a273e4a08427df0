package frag

import (
	"fmt"
	"math"
	"math/rand"
	"slices"
	"testing"

	"downhaul/api"
	"downhaul/checks"
)

// model is a table by the chapter's words, byte by byte.
type model struct {
	room int
	now  int64
	list []*partial // in the order in which they began
}

// partial is a packet of which some bytes are there.
type partial struct {
	name   string
	began  int64
	pieces []api.Packet
	bytes  map[int]byte
	end    int // below 0, as long as it is not known
}

// at tells it the time.
func (m *model) at(now int64) {
	if now >= m.now && now <= 1<<40 {
		m.now = now
	}
}

// place is where the packet of a piece is; below 0, if it is not there.
func (m *model) place(p api.Packet) int {
	name := fmt.Sprint(p.Src, p.Dst, p.Id, p.Proto)
	return slices.IndexFunc(m.list, func(q *partial) bool { return q.name == name })
}

// add is what a table answers of a piece.
func (m *model) add(now int64, p api.Packet) (api.Packet, bool, api.Errno) {
	m.at(now)
	switch {
	case !mayBe(p):
		return api.Packet{}, false, api.ErrForm
	case p.Off == 0 && !p.More:
		if p.Src.Six {
			p.Whole, p.Id = true, 0
		}
		return p, true, api.OK
	case len(p.Load) == 0:
		return api.Packet{}, false, api.ErrForm
	}
	if m.place(p) < 0 {
		if len(m.list) == m.room {
			m.list = m.list[1:]
		}
		m.list = append(m.list, &partial{name: fmt.Sprint(p.Src, p.Dst, p.Id, p.Proto), began: m.now, bytes: map[int]byte{}, end: -1})
	}
	at := m.place(p)
	q := m.list[at]
	for _, o := range q.pieces {
		if o.Off == p.Off && len(o.Load) == len(p.Load) && o.More == p.More {
			return api.Packet{}, false, api.OK
		}
	}
	switch {
	case q.fits(p) && len(q.pieces) < 64:
		q.take(p)
		if len(q.bytes) != q.end {
			return api.Packet{}, false, api.OK
		}
		m.list = slices.Delete(m.list, at, at+1)
		return q.all(), true, api.OK
	case q.fits(p):
		m.list = slices.Delete(m.list, at, at+1)
		return api.Packet{}, false, api.ErrMany
	}
	m.list = slices.Delete(m.list, at, at+1)
	return api.Packet{}, false, api.ErrForm
}

// fits tells whether a piece stands beside those that are there.
func (q *partial) fits(p api.Packet) bool {
	upTo, highest := p.Off+len(p.Load), 0
	for at := range q.bytes {
		highest = max(highest, at+1)
	}
	for at := p.Off; at < upTo; at++ {
		if _, there := q.bytes[at]; there {
			return false
		}
	}
	if q.end >= 0 && (upTo > q.end || !p.More) {
		return false
	}
	return p.More || upTo >= highest
}

// take takes a piece.
func (q *partial) take(p api.Packet) {
	q.pieces = append(q.pieces, p)
	for i, b := range p.Load {
		q.bytes[p.Off+i] = b
	}
	if !p.More {
		q.end = p.Off + len(p.Load)
	}
}

// first is the piece at Off 0, if it is there.
func (q *partial) first() []api.Packet {
	at := slices.IndexFunc(q.pieces, func(p api.Packet) bool { return p.Off == 0 })
	if at < 0 {
		return nil
	}
	return q.pieces[at : at+1]
}

// all is the packet, all of whose bytes are there.
func (q *partial) all() api.Packet {
	p := q.first()[0]
	load := make([]byte, q.end)
	for at, b := range q.bytes {
		load[at] = b
	}
	p.Load, p.More = load, false
	if p.Src.Six {
		p.Whole, p.Id = true, 0
	}
	return p
}

// over is what a table answers of those that wait too long.
func (m *model) over(now int64) []api.Packet {
	m.at(now)
	var out []api.Packet
	var rest []*partial
	for _, q := range m.list {
		if m.now-q.began > 30000 {
			out = append(out, q.first()...)
		} else {
			rest = append(rest, q)
		}
	}
	m.list = rest
	return out
}

// twin is a table, with the model that it is held to.
type twin struct {
	*Table
	model model
	told  map[string]int // how often each answer was given
}

// newTwin is a twin of that room.
func newTwin(t *testing.T, room int) *twin {
	return &twin{table(t, room), model{room: room}, map[string]int{}}
}

// add adds a piece to both, which answer the same.
func (w *twin) add(t *testing.T, now int64, p api.Packet) (api.Packet, bool, api.Errno) {
	t.Helper()
	kept := checks.With(p, func(p *api.Packet) { p.Load = slices.Clone(p.Load) })
	full, was := len(w.model.list) == w.model.room, w.model.place(p)
	got, ok, e := w.Add(now, p)
	want, fine, f := w.model.add(now, kept)
	if e != f || ok != fine || !checks.Alike(got, want) || !checks.Alike(p, kept) {
		t.Fatalf("Add(%d, %s) = %s, %t, %v, not %s, %t, %v", now, short(p), short(got), ok, e, short(want), fine, f)
	}
	w.same(t)
	w.told[fmt.Sprint(ok, e)]++
	if full && was < 0 && w.model.place(p) >= 0 {
		w.told["gone"]++
	}
	return got, ok, e
}

// over lets those of both go that wait too long, which answer the same.
func (w *twin) over(t *testing.T, now int64) []api.Packet {
	t.Helper()
	got, want := w.Over(now), w.model.over(now)
	if !allAlike(got, want) {
		t.Fatalf("Over(%d): %d packets, not %d", now, len(got), len(want))
	}
	w.same(t)
	w.told["over"] += len(got)
	return got
}

// same holds that both have as many packets, and the same time.
func (w *twin) same(t *testing.T) {
	t.Helper()
	if w.Len() != len(w.model.list) || w.Now() != w.model.now {
		t.Fatalf("%d packets, at %d, not %d, at %d", w.Len(), w.Now(), len(w.model.list), w.model.now)
	}
}

// anyPiece is a piece by chance, of one of some packets: most of them stand side by side.
func anyPiece(chance *rand.Rand, names int) api.Packet {
	n, six := chance.Intn(names), chance.Intn(2) == 0
	off, size, more := 8*chance.Intn(4), 8, true
	switch chance.Intn(8) {
	case 0:
		size = 8 * chance.Intn(4)
	case 1, 2, 3:
		off, size, more = 24, 5+chance.Intn(2)*chance.Intn(10), false
	case 4:
		off, size, more = 8*chance.Intn(4), chance.Intn(20), false
	}
	p := checks.Numbered(uint32(n), piece(six, off, size, more))
	p.Hops = uint8(chance.Intn(256))
	p.Load = checks.Bytes(chance.Intn, size)
	switch chance.Intn(60) {
	case 0:
		p.Id = 1 << 17
	case 1:
		p.Whole = true
	case 2:
		p.Off++
	case 3:
		p.Off = -8
	case 4:
		p.Proto = 44
	case 5:
		p.Src.Six = !p.Src.Six
	}
	return p
}

// anyTime is a time by chance: most of them are ahead by a little.
func anyTime(chance *rand.Rand, now int64) int64 {
	wrong := []int64{-1, math.MinInt64, 1<<40 + 1, math.MaxInt64, 0, now, now - 1, now / 2, now + 30000, now + 30001}
	if n := chance.Intn(100); n < len(wrong) {
		return wrong[n]
	}
	return now + int64(chance.Intn(2)*chance.Intn(6000))
}

// P15.3, P15.4, R3, R7: whatever is added, and whenever, by chance: each answer is that of the chapter's words.
func TestByChance(t *testing.T) {
	told := map[string]int{}
	for seed := range int64(300) {
		chance := rand.New(rand.NewSource(1000 + seed))
		w := newTwin(t, []int{1, 2, 3, 5, 64}[chance.Intn(5)])
		names := 1 + chance.Intn(8)
		for range 400 {
			now := anyTime(chance, w.model.now)
			if chance.Intn(12) == 0 {
				w.over(t, now)
			} else {
				w.add(t, now, anyPiece(chance, names))
			}
		}
		for k, n := range w.told {
			told[k] += n
		}
	}
	for _, k := range []string{"true error 0", "false error 0", "false error 3", "gone", "over"} {
		if told[k] < 1000 {
			t.Errorf("%s: only %d", k, told[k])
		}
	}
}

// P15.3: many pieces, so that some are too many.
func TestManyByChance(t *testing.T) {
	told := map[string]int{}
	for seed := range int64(100) {
		chance := rand.New(rand.NewSource(2000 + seed))
		w := newTwin(t, 2)
		most := 60 + chance.Intn(10)
		order := chance.Perm(most)
		for i, k := range order {
			six := seed%2 == 0
			w.add(t, int64(i), piece(six, 8*k, 8, k != most-1))
			w.add(t, int64(i), piece(six, 8*order[chance.Intn(i+1)], 8, true))
		}
		for k, n := range w.told {
			told[k] += n
		}
	}
	if told["true error 0"] < 10 || told["false error 3"] < 10 || told["false error 5"] < 10 {
		t.Error(told)
	}
}

// small are all pieces of a small packet: each Off, each end, and with and without More.
func small(six bool, offs, most int) []api.Packet {
	var out []api.Packet
	for off := 0; off < offs; off += 8 {
		for n := 1; off+n <= most; n++ {
			if n%8 == 0 {
				out = append(out, piece(six, off, n, true))
			}
			if off > 0 {
				out = append(out, piece(six, off, n, false))
			}
		}
	}
	return out
}

// P15.3: each two small pieces, one after the other, and all of these once more behind that: of the first one what is left is there, or nothing.
func TestEachTwo(t *testing.T) {
	for _, six := range both() {
		list := small(six, 32, 34)
		for _, first := range list {
			for _, second := range list {
				w := newTwin(t, 1)
				w.add(t, 0, first)
				w.add(t, 0, second)
				w.add(t, 0, first)
				w.over(t, 30001)
			}
		}
	}
}

// P15.3: each three smaller ones.
func TestEachThree(t *testing.T) {
	list := small(false, 24, 26)
	whole := 0
	for _, first := range list {
		for _, second := range list {
			for _, third := range list {
				w := newTwin(t, 1)
				w.add(t, 0, first)
				w.add(t, 0, second)
				w.add(t, 0, third)
				whole += w.told["true error 0"]
			}
		}
	}
	if whole < 60 {
		t.Errorf("only %d came together", whole)
	}
}
