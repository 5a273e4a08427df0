package icmp

import (
	"bytes"
	"math/rand"
	"slices"
	"testing"

	"downhaul/api"
	"downhaul/checks"
	"downhaul/ipfour"
	"downhaul/ipsix"
)

// P14.3: an Ask is answered, with the same Id, Seq and data, and nothing else; also one that may not be.
func TestReply(t *testing.T) {
	list := slices.Concat(tried(rand.New(rand.NewSource(148)), true, 500), wrongs(false), wrongs(true))
	many := 0
	for _, m := range list {
		if m.Kind != 1 {
			continue
		}
		many++
		got, ok := Reply(m)
		if want := (Msg{Kind: 2, Id: m.Id, Seq: m.Seq, Data: m.Data}); !ok || !alike(got, want) {
			t.Errorf("Reply(%s) = %s, %t", brief(m), brief(got), ok)
		}
	}
	if many < 100 {
		t.Errorf("only %d", many)
	}
}

// P14.3: none but an Ask is answered, and no Answer.
func TestNoReply(t *testing.T) {
	list := slices.Concat(tried(rand.New(rand.NewSource(149)), true, 500), wrongs(true), wrongs(false), []Msg{{}})
	for _, m := range list {
		if m.Kind == 1 {
			m, _ = Reply(m)
		}
		if got, ok := Reply(m); ok || !alike(got, Msg{}) || got.Data != nil {
			t.Errorf("Reply(%s) = %s, %t", brief(m), brief(got), ok)
		}
	}
	for kind := -300; kind <= 300; kind++ {
		m := checks.With(sized(1, 5), func(m *Msg) { m.Kind = kind })
		if got, ok := Reply(m); ok != (kind == 1) || !ok && !alike(got, Msg{}) {
			t.Errorf("Reply(%s) = %s, %t", brief(m), brief(got), ok)
		}
	}
}

// P14.6: what was asked is answered by what may be, is laid and is parsed, the way back.
func TestAnswerIsOfWhatWasAsked(t *testing.T) {
	for _, w := range checks.Ways()[:2] {
		back := checks.FromTo(w.Dst, w.Src)
		for _, m := range tried(rand.New(rand.NewSource(150)), w.Src.Six, 500) {
			if m.Kind != 1 {
				continue
			}
			answer, ok := Reply(parsed(t, w, laid(t, w, m)))
			if !ok || !May(answer, w.Src.Six) {
				t.Fatalf("%s is answered by %s, %t", brief(m), brief(answer), ok)
			}
			got := parsed(t, back, laid(t, back, answer))
			if got.Kind != 2 || got.Id != m.Id || got.Seq != m.Seq || !bytes.Equal(got.Data, m.Data) || got.Code != 0 || got.MTU != 0 {
				t.Fatalf("%s is answered by %s", brief(m), brief(got))
			}
		}
	}
}

// P14.3: a message about a packet has as much of its beginning as may stand there: of each kind that there is of, of packets of all lengths about the most.
func TestAbout(t *testing.T) {
	for _, kind := range []int{3, 4, 5} {
		for _, six := range []bool{false, true} {
			most := 548
			if six {
				most = 1232
			}
			for _, n := range []int{0, 1, 2, 20, 28, 547, 548, 549, 550, 1000, 1231, 1232, 1233, 1234, 1400, 1401, 2000, 65535, 1 << 20} {
				packet := checks.Bytes(rand.New(rand.NewSource(151)).Intn, n)
				got := About(kind, packet, six)
				if want := (Msg{Kind: kind, Data: packet[:min(n, most)]}); !alike(got, want) || !May(got, six) {
					t.Errorf("About(%d, %d bytes, %t) = %s", kind, n, six, brief(got))
				}
			}
			for _, packet := range [][]byte{nil, {}, make([]byte, 0, 9)} {
				if got := About(kind, packet, six); !alike(got, Msg{Kind: kind}) {
					t.Errorf("About(%d, no bytes, %t) = %s", kind, six, brief(got))
				}
			}
		}
	}
}

// P14.3: of other kinds there is no message about a packet.
func TestAboutOfOtherKinds(t *testing.T) {
	for _, kind := range append(kinds(), 1, 2) {
		for _, packet := range [][]byte{nil, {1}, checks.Rising(548), make([]byte, 2000)} {
			for _, six := range []bool{false, true} {
				if got := About(kind, packet, six); !alike(got, Msg{}) || got.Data != nil {
					t.Errorf("About(%d, %d bytes, %t) = %s", kind, len(packet), six, brief(got))
				}
			}
		}
	}
}

// P14.3: a message about a packet of which nothing is left out fits with it into a packet of the least size that all ways let through.
func TestAboutFits(t *testing.T) {
	for _, kind := range []int{3, 4, 5} {
		four := laid(t, checks.FourWay(), About(kind, make([]byte, 3000), false))
		if n := len(four) + ipfour.Head; n != 576 {
			t.Errorf("of IPv4: %d bytes", n)
		}
		six := laid(t, checks.SixWay(), About(kind, make([]byte, 3000), true))
		if n := len(six) + ipsix.Head; n != 1280 {
			t.Errorf("of IPv6: %d bytes", n)
		}
	}
}

// P14.3, P14.4: what is told about a packet is laid and parsed, and the packet's header is there.
func TestAboutIsParsed(t *testing.T) {
	w := checks.FourWay()
	p := api.Packet{Src: w.Src, Dst: w.Dst, Proto: 6, Hops: 64, Load: checks.Rising(900)}
	packet, e := ipfour.Lay(p)
	if e != api.OK {
		t.Fatal(e)
	}
	m := About(TooBig, packet, false)
	m.MTU = 576
	got := parsed(t, w, laid(t, w, m))
	if got.Kind != TooBig || got.MTU != 576 || !bytes.Equal(got.Data, packet[:548]) {
		t.Error(brief(got))
	}
}
