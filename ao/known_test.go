package ao

import (
	"bytes"
	"math"
	"slices"
	"testing"

	"downhaul/api"
	"downhaul/checks"
	"downhaul/kdf"
)

// example is a segment of a connection, with what another program reckoned of it.
type example struct {
	alg     int
	master  string
	l       link
	out, in string // the traffic keys
	s       api.Seg
	sne     uint32
	all     string // the bytes of its MAC, and that, with options covered
	allMAC  string
	bare    string // the same without
	bareMAC string
}

// examples are known: Syns, segments with data both ways, and such whose numbers stand at their ends.
func examples() []example { return slices.Concat(knownSyns(), knownData(), knownEnds()) }

// knownSyns are the first segments of two connections, whose other end is not heard of yet.
func knownSyns() []example {
	syn := api.Opts{HasMSS: true, MSS: 1460, HasScale: true, Scale: 8, SackOK: true, HasTime: true, Val: 0x155AB7, HasAO: true, KeyID: 61, NextID: 84}
	later, other := syn, four()
	later.Val, other.p.Local.Port, other.own = 0x17ED0, 50426, 0x787A1DDF
	return []example{
		{
			kdf.SHA1, "testvector", begun(four()), "6d63ef1b02fe1509d4b1402707fd7b0416abb74f", "f5d54c1be8c4dd8f27f18b6bc73034fc350caacc",
			api.Seg{Src: 59863, Dst: 179, Seq: 0xFBFBAB5A, Flags: api.Syn, Window: 65535, Opts: syn}, 0,
			"00000000 0a0b0c0d ac1b1c1d 0006 0038 e9d700b3 fbfbab5a 00000000 e002ffff 00000000 020405b4 030308 0402 080a00155ab700000000 1d103d54 000000000000000000000000 00",
			"c00ff3a735d012ecb9e1699f",
			"00000000 0a0b0c0d ac1b1c1d 0006 0024 e9d700b3 fbfbab5a 00000000 9002ffff 00000000 1d103d54 000000000000000000000000",
			"355a990636d7d1310579409d",
		},
		{
			kdf.AES, "testvector", begun(other), "f5b8b3d5f34fdbb6eb8d4ab9660e60e3", "dc09d0e92979f0c6564b2b9bb4294998",
			api.Seg{Src: 50426, Dst: 179, Seq: 0x787A1DDF, Flags: api.Syn, Window: 65535, Opts: later}, 0,
			"00000000 0a0b0c0d ac1b1c1d 0006 0038 c4fa00b3 787a1ddf 00000000 e002ffff 00000000 020405b4 030308 0402 080a00017ed000000000 1d103d54 000000000000000000000000 00",
			"c23ff647f17811764d874369",
			"00000000 0a0b0c0d ac1b1c1d 0006 0024 c4fa00b3 787a1ddf 00000000 9002ffff 00000000 1d103d54 000000000000000000000000",
			"8897705d0f9f71a3e84e1702",
		},
	}
}

// knownData are segments with data, of an odd length, and of an even one, which goes the other way.
func knownData() []example {
	times := api.Opts{HasTime: true, Val: 0x155AC1, Echo: 0x155AB7, HasAO: true, KeyID: 61, NextID: 84}
	run := api.Opts{Sacks: []api.Block{{Left: 0x10203040, Right: 0x50607080}}, HasAO: true, KeyID: 255}
	return []example{
		{
			kdf.SHA1, "testvector", four(), "d2e59c65ffc7b1a39347656463b70edc24a13d71", "d9e217e4834a80ca2f3fd8de2e41b8e6797fea96",
			api.Seg{Src: 59863, Dst: 179, Seq: 0xFBFBAB5B, Ack: 0x11C14262, Flags: api.Psh | api.Ack, Window: 260, Opts: times, Data: []byte("hello")}, 0,
			"00000000 0a0b0c0d ac1b1c1d 0006 0035 e9d700b3 fbfbab5b 11c14262 c0180104 00000000 080a00155ac100155ab7 1d103d54 000000000000000000000000 0000 68656c6c6f",
			"f8237aa185162bee2de6794b",
			"00000000 0a0b0c0d ac1b1c1d 0006 0029 e9d700b3 fbfbab5b 11c14262 90180104 00000000 1d103d54 000000000000000000000000 68656c6c6f",
			"f2d72087762cbf15bb6c26fe",
		},
		{
			kdf.AES, "0123456789abcdef", six().back(), "bc22ed277708701cef718d8e02c34008", "6fa2de6d88e8d226b16758a2c38dbd6f",
			api.Seg{Src: 179, Dst: 63578, Seq: 3, Ack: 0x193CCCED, Flags: api.Fin | api.Psh | api.Ack, Urgent: 9, Opts: run, Data: []byte("data")}, 1,
			"00000001 fd000000000000000000000000000002 fd000000000000000000000000000001 00000034 00000006 00b3f85a 00000003 193ccced c0190000 00000009 050a1020304050607080 1d10ff00 000000000000000000000000 0000 64617461",
			"4dbbf1a298528d5b2c72dddd",
			"00000001 fd000000000000000000000000000002 fd000000000000000000000000000001 00000028 00000006 00b3f85a 00000003 193ccced 90190000 00000009 1d10ff00 000000000000000000000000 64617461",
			"e8f2d018a9029f92ded4311d",
		},
	}
}

// knownEnds are segments all of whose numbers are the greatest, and all of which are 0. They have no options but AO.
func knownEnds() []example {
	most := six()
	most.p.Local.Port, most.p.Remote.Port, most.own, most.other = 65535, 65535, math.MaxUint32, math.MaxUint32
	great := "ffffffff fd000000000000000000000000000001 fd000000000000000000000000000002 00000025 00000006 ffffffff ffffffff ffffffff 903fffff 0000ffff 1d10ffff 000000000000000000000000 ff"
	none := "00000000 00000000 00000000 0006 0024 00000000 00000000 00000000 90000000 00000000 1d100000 000000000000000000000000"
	return []example{
		{
			kdf.SHA1, "k", most, "b0bac4da06620ba90fb8869f42aa29266249dbd0", "30c5aa0ebee9b33a8d8f1fd51f25042907670896",
			api.Seg{Src: 65535, Dst: 65535, Seq: math.MaxUint32, Ack: math.MaxUint32, Flags: 63, Window: 65535, Urgent: 65535, Opts: api.Opts{HasAO: true, KeyID: 255, NextID: 255}, Data: []byte{255}},
			math.MaxUint32, great, "613e3e4cb84899e093de4198", great, "613e3e4cb84899e093de4198",
		},
		{
			kdf.AES, "k", link{}, "9a095cdd1f25c552d9a4a9d7318c0450", "9a095cdd1f25c552d9a4a9d7318c0450",
			api.Seg{Opts: api.Opts{HasAO: true}}, 0, none, "64cd1b24a7cb9e21003e5bd1", none, "64cd1b24a7cb9e21003e5bd1",
		},
	}
}

// P20.1: the chapter's example, in all ways to have no AO.
func TestExample(t *testing.T) {
	for _, o := range append(checks.Options(), api.Opts{KeyID: 1}, api.Opts{MAC: checks.MAC()}) {
		s := checks.Choosing(o, checks.Sized(5))
		s.Opts.HasAO = false
		for _, opts := range []bool{true, false} {
			if b, e := Bytes(four().way().Src, four().way().Dst, s, 0, opts); b != nil || e != api.ErrArg {
				t.Errorf("Bytes(%s) = %x, %v", brief(s), b, e)
			}
		}
	}
}

// P20.1, P20.2: known keys, bytes and MACs; they are verified at the other end.
func TestKnown(t *testing.T) {
	for _, c := range examples() {
		for _, opts := range []bool{true, false} {
			text, mac := checks.Unhex(c.all), [12]byte(checks.Unhex(c.allMAC))
			if !opts {
				text, mac = checks.Unhex(c.bare), [12]byte(checks.Unhex(c.bareMAC))
			}
			w := c.l.way()
			k := c.l.keys(t, c.alg, []byte(c.master), opts)
			if !bytes.Equal(k.Out, checks.Unhex(c.out)) || !bytes.Equal(k.In, checks.Unhex(c.in)) || k.Alg != c.alg || k.Opts != opts {
				t.Errorf("%v: %+v, not %s, %s", c.l, k, c.out, c.in)
			}
			if got := bytesOf(t, w, c.s, c.sne, opts); !bytes.Equal(got, text) || !bytes.Equal(spelt(w, c.s, c.sne, opts), text) {
				t.Errorf("%s: %x, not %x", brief(c.s), got, text)
			}
			want := c.s
			want.Opts.MAC = mac
			got := signed(t, k, w, c.s, c.sne)
			if !checks.AlikeSegs(got, want) {
				t.Errorf("%s, not %s", brief(got), brief(want))
			}
			verifies(t, "known", c.l.back().keys(t, c.alg, []byte(c.master), opts), w, want, c.sne, api.OK)
		}
	}
}
