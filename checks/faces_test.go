package checks

// Each line stands for a call, a type or a constant that a chapter lists: it does not build, if that is there no more, or has another signature.

import (
	"downhaul/addr"
	"downhaul/aes"
	"downhaul/ao"
	"downhaul/api"
	"downhaul/chksum"
	"downhaul/cmac"
	"downhaul/cong"
	"downhaul/draw"
	"downhaul/dump"
	"downhaul/frag"
	"downhaul/hmac"
	"downhaul/host"
	"downhaul/icmp"
	"downhaul/ipfour"
	"downhaul/ipsix"
	"downhaul/kdf"
	"downhaul/mkt"
	"downhaul/net"
	"downhaul/octets"
	"downhaul/opts"
	"downhaul/pmtu"
	"downhaul/rbuf"
	"downhaul/ring"
	"downhaul/route"
	"downhaul/rto"
	"downhaul/sack"
	"downhaul/sbuf"
	"downhaul/script"
	"downhaul/seg"
	"downhaul/sha"
	"downhaul/sne"
	"downhaul/sock"
	"downhaul/tcb"
)

// Layer 1.
var (
	_ func(uint32, uint32) int32                = ring.Diff
	_ func(uint32, uint32) bool                 = ring.Before
	_ func(uint32, ...uint32) uint32            = ring.Max
	_ func(uint32, uint32, uint32) bool         = ring.In
	_ func(uint32, uint32, uint32) bool         = ring.Between
	_ func(api.Block, api.Block) bool           = ring.Overlap
	_ func(uint64, uint32) uint64               = ring.Long
	_ func(uint32, uint32, uint32, uint32) bool = ring.Accept
)

// Layer 2.
var (
	_ func([]byte, int, ...uint64) []byte = octets.Put
	_ func([]byte) uint64                 = octets.Get
	_ func([]byte) string                 = octets.Hex
	_ func(string) ([]byte, api.Errno)    = octets.Unhex
	_ func([]byte, []byte) bool           = octets.Same
	_ octets.Reader
	_ func([]byte) *octets.Reader              = octets.Read
	_ func(*octets.Reader, int) uint64         = (*octets.Reader).Num
	_ func(*octets.Reader, int) []byte         = (*octets.Reader).Bytes
	_ func(*octets.Reader) int                 = (*octets.Reader).Left
	_ func(*octets.Reader, int) *octets.Reader = (*octets.Reader).Sub
	_ func(func()) api.Errno                   = octets.Try
)

// Layer 3.
var (
	_ func(...[]byte) uint16                         = chksum.Sum
	_ func(...[]byte) uint16                         = chksum.Check
	_ func(api.Addr, api.Addr, uint8, int) []byte    = chksum.Pseudo
	_ func(api.Addr, api.Addr, uint8, []byte) uint16 = chksum.Load
	_ func(api.Addr, api.Addr, uint8, []byte) bool   = chksum.Good
	_ func(uint16, uint16, uint16) uint16            = chksum.Turn
)

// Layer 4.
var (
	_ sha.Sum
	_ func() sha.Sum                 = sha.New
	_ func(sha.Sum, ...byte) sha.Sum = sha.Sum.Add
	_ func(sha.Sum) [20]byte         = sha.Sum.Digest
	_ func(...[]byte) [20]byte       = sha.Of
)

// Layer 5.
var (
	_ func([]byte, ...[]byte) [20]byte = hmac.Of
	_ func([]byte, ...[]byte) [12]byte = hmac.Short
	_ func([]byte) [64]byte            = hmac.Block
)

// Layer 6.
var (
	_ aes.Key
	_ func([16]byte) aes.Key           = aes.New
	_ func(aes.Key, [16]byte) [16]byte = aes.Key.Encrypt
	_ func(aes.Key, int) [16]byte      = aes.Key.Round
	_ func(byte) byte                  = aes.Box
	_ func(byte) byte                  = aes.Double
)

// Layer 7.
var (
	_ func([16]byte, ...[]byte) [16]byte  = cmac.Of
	_ func([16]byte, ...[]byte) [12]byte  = cmac.Short
	_ func([16]byte) [16]byte             = cmac.Double
	_ func([16]byte) ([16]byte, [16]byte) = cmac.Blocks
)

// Layer 8.
var (
	_ [1]struct{}                                                = [kdf.SHA1]struct{}{}
	_ [2]struct{}                                                = [kdf.AES]struct{}{}
	_ func(int, []byte, []byte) ([]byte, api.Errno)              = kdf.Key
	_ func(api.End, api.End, uint32, uint32) ([]byte, api.Errno) = kdf.Context
	_ func(int, []byte, ...[]byte) ([12]byte, api.Errno)         = kdf.MAC
	_ func(int) int                                              = kdf.Size
)

// Layer 9.
var (
	_ func(byte, byte, byte, byte) api.Addr     = addr.Four
	_ func(...uint16) api.Addr                  = addr.Six
	_ func(api.Addr) bool                       = addr.May
	_ func(api.Addr) []byte                     = addr.Bytes
	_ func([]byte) (api.Addr, api.Errno)        = addr.Of
	_ func(api.Addr) string                     = addr.Text
	_ func(string) (api.Addr, api.Errno)        = addr.Parse
	_ func(api.Addr, api.Addr, int) bool        = addr.Lies
	_ func(api.Addr, int) (api.Addr, api.Errno) = addr.Mask
	_ func(api.Addr, api.Addr) int              = addr.Compare
	_ func(api.Addr) bool                       = addr.IsGroup
)

// Layer 10.
var (
	_ [20]struct{}                         = [ipfour.Head]struct{}{}
	_ func(api.Packet) bool                = ipfour.May
	_ func(api.Packet) ([]byte, api.Errno) = ipfour.Lay
	_ func([]byte) (api.Packet, api.Errno) = ipfour.Parse
	_ func(api.Packet, api.Packet) bool    = ipfour.Same
	_ func([]byte) ([]byte, api.Errno)     = ipfour.Hop
)

// Layer 11.
var (
	_ [40]struct{}                                    = [ipsix.Head]struct{}{}
	_ func(api.Packet) bool                           = ipsix.May
	_ func(api.Packet) ([]byte, api.Errno)            = ipsix.Lay
	_ func([]byte) (api.Packet, api.Errno)            = ipsix.Parse
	_ func([]byte, uint8, []byte) ([]byte, api.Errno) = ipsix.Wrap
	_ func([]byte) ([]byte, api.Errno)                = ipsix.Hop
)

// Layer 12.
var (
	_ func(api.Opts) bool                = opts.May
	_ func(api.Opts) ([]byte, api.Errno) = opts.Lay
	_ func([]byte) (api.Opts, api.Errno) = opts.Parse
	_ func(api.Opts, api.Opts) bool      = opts.Same
	_ func(api.Opts) int                 = opts.Size
	_ func(api.Opts) api.Opts            = opts.Bare
	_ func(api.Opts) api.Opts            = opts.Fit
)

// Layer 13.
var (
	_ func(api.Seg) bool                                    = seg.May
	_ func(api.Addr, api.Addr, api.Seg) ([]byte, api.Errno) = seg.Lay
	_ func(api.Addr, api.Addr, []byte) (api.Seg, api.Errno) = seg.Parse
	_ func(api.Seg, api.Seg) bool                           = seg.Same
	_ func(api.Seg) uint32                                  = seg.Len
	_ func(api.Seg, uint8) bool                             = seg.Has
	_ func(api.Seg) (api.Seg, bool)                         = seg.Reset
	_ func(api.Seg, uint32, uint32) api.Seg                 = seg.Trim
)

// Layer 14.
var (
	_ [1]struct{} = [icmp.Ask]struct{}{}
	_ [2]struct{} = [icmp.Answer]struct{}{}
	_ [3]struct{} = [icmp.Unreachable]struct{}{}
	_ [4]struct{} = [icmp.TooBig]struct{}{}
	_ [5]struct{} = [icmp.TimeOver]struct{}{}
	_             = struct {
		Kind int
		Code uint8
		Id   uint16
		Seq  uint16
		MTU  uint32
		Data []byte
	}(icmp.Msg{})
	_ func(icmp.Msg, bool) bool                              = icmp.May
	_ func(icmp.Msg, api.Addr, api.Addr) ([]byte, api.Errno) = icmp.Lay
	_ func([]byte, api.Addr, api.Addr) (icmp.Msg, api.Errno) = icmp.Parse
	_ func(icmp.Msg, icmp.Msg) bool                          = icmp.Same
	_ func(icmp.Msg) (icmp.Msg, bool)                        = icmp.Reply
	_ func(int, []byte, bool) icmp.Msg                       = icmp.About
)

// Layer 15.
var (
	_ [30000]struct{} = [frag.Wait]struct{}{}
	_ frag.Table
	_ func(api.Packet, int, uint32) ([]api.Packet, api.Errno)            = frag.Cut
	_ func(int) (*frag.Table, api.Errno)                                 = frag.New
	_ func(*frag.Table, int64, api.Packet) (api.Packet, bool, api.Errno) = (*frag.Table).Add
	_ func(*frag.Table, int64) []api.Packet                              = (*frag.Table).Over
	_ func(*frag.Table) int                                              = (*frag.Table).Len
	_ func(*frag.Table) int64                                            = (*frag.Table).Now
)

// Layer 16.
var (
	_ = struct {
		Prefix api.Addr
		Length int
		Port   int
		HasVia bool
		Via    api.Addr
	}(route.Way{})
	_ route.Table
	_ func() *route.Table                                 = route.New
	_ func(*route.Table, route.Way) api.Errno             = (*route.Table).Add
	_ func(*route.Table, api.Addr, int) api.Errno         = (*route.Table).Drop
	_ func(*route.Table, api.Addr) (route.Way, api.Errno) = (*route.Table).Find
	_ func(*route.Table) []route.Way                      = (*route.Table).All
	_ func(route.Way) bool                                = route.May
)

// Layer 17.
var (
	_ [600000]struct{} = [pmtu.Keep]struct{}{}
	_ pmtu.Cache
	_ func(int) (*pmtu.Cache, api.Errno)           = pmtu.New
	_ func(*pmtu.Cache, int64, api.Addr) int       = (*pmtu.Cache).Get
	_ func(*pmtu.Cache, int64, api.Addr, int) bool = (*pmtu.Cache).Less
	_ func(*pmtu.Cache, int64) int                 = (*pmtu.Cache).Len
	_ func(api.Addr) int                           = pmtu.Floor
	_ func(int) int                                = pmtu.Plateau
)

// Layer 18.
var (
	_ func(float64) float64                   = draw.Chance
	_ func(float64) float64                   = draw.Draw
	_ func(float64, float64) bool             = draw.Hit
	_ func(float64, ...float64) int           = draw.Pick
	_ func(float64, int, float64) int         = draw.Delay
	_ func(float64, float64, float64) float64 = draw.Mix
	_ func(float64) uint64                    = draw.Bits
	_ func(float64, float64) bool             = draw.Same
)

// Layer 19.
var (
	_ = struct {
		N          int
		Prefix     api.Addr
		Length     int
		LocalPort  uint16
		RemotePort uint16
		SendID     uint8
		RecvID     uint8
		Alg        int
		Master     []byte
		Opts       bool
	}(mkt.Key{})
	_ mkt.Ring
	_ func() *mkt.Ring                                      = mkt.New
	_ func(mkt.Key) bool                                    = mkt.May
	_ func(mkt.Key, api.Pair) bool                          = mkt.Governs
	_ func(mkt.Key, mkt.Key) bool                           = mkt.Meet
	_ func(*mkt.Ring, mkt.Key) (int, api.Errno)             = (*mkt.Ring).Add
	_ func(*mkt.Ring, int) api.Errno                        = (*mkt.Ring).Drop
	_ func(*mkt.Ring, int) (mkt.Key, api.Errno)             = (*mkt.Ring).Get
	_ func(*mkt.Ring) []mkt.Key                             = (*mkt.Ring).All
	_ func(*mkt.Ring, api.Pair) []mkt.Key                   = (*mkt.Ring).For
	_ func(*mkt.Ring, api.Pair, uint8) (mkt.Key, api.Errno) = (*mkt.Ring).Sends
	_ func(*mkt.Ring, api.Pair, uint8) (mkt.Key, api.Errno) = (*mkt.Ring).Gets
)

// Layer 20.
var (
	_ = struct {
		Alg  int
		Out  []byte
		In   []byte
		Opts bool
	}(ao.Keys{})
	_ func(int, []byte, bool, api.Pair, uint32, uint32) (ao.Keys, api.Errno)  = ao.Traffic
	_ func(api.Addr, api.Addr, api.Seg, uint32, bool) ([]byte, api.Errno)     = ao.Bytes
	_ func(ao.Keys, api.Addr, api.Addr, api.Seg, uint32) (api.Seg, api.Errno) = ao.Sign
	_ func(ao.Keys, api.Addr, api.Addr, api.Seg, uint32) api.Errno            = ao.Verify
	_ func(api.Seg, uint8, uint8) api.Seg                                     = ao.Mark
)

// Layer 21.
var (
	_ sne.Tracker
	_ func(uint32) sne.Tracker              = sne.New
	_ func(sne.Tracker, uint32) uint32      = sne.Tracker.Of
	_ func(sne.Tracker, uint32) uint64      = sne.Tracker.Long
	_ func(sne.Tracker, uint32) sne.Tracker = sne.Tracker.Seen
	_ func(sne.Tracker) uint64              = sne.Tracker.Now
)

// Layer 22.
var (
	_ [200]struct{}   = [rto.Least]struct{}{}
	_ [1000]struct{}  = [rto.First]struct{}{}
	_ [60000]struct{} = [rto.Longest]struct{}{}
	_ rto.Timer
	_ func() rto.Timer                 = rto.New
	_ func(rto.Timer, int64) rto.Timer = rto.Timer.Sample
	_ func(rto.Timer) rto.Timer        = rto.Timer.Back
	_ func(rto.Timer) int64            = rto.Timer.Wait
	_ func(rto.Timer) int64            = rto.Timer.Smooth
	_ func(rto.Timer) int64            = rto.Timer.Varies
	_ func(rto.Timer) int              = rto.Timer.Backs
)

// Layer 23.
var (
	_ cong.Control
	_ func(int) cong.Control                               = cong.New
	_ func(cong.Control, int, uint32, int) cong.Control    = cong.Control.Acked
	_ func(cong.Control, int, uint32) (cong.Control, bool) = cong.Control.Dup
	_ func(cong.Control, int, uint32) cong.Control         = cong.Control.Timeout
	_ func(cong.Control) cong.Control                      = cong.Control.Idle
	_ func(cong.Control, int) cong.Control                 = cong.Control.Resize
	_ func(cong.Control) int                               = cong.Control.Window
	_ func(cong.Control) int                               = cong.Control.Threshold
	_ func(cong.Control) (uint32, bool)                    = cong.Control.Recovers
	_ func(cong.Control) int                               = cong.Control.MSS
)

// Layer 24.
var (
	_ sack.Board
	_ func(uint32) *sack.Board                                   = sack.New
	_ func(*sack.Board, uint32, ...api.Block) int                = (*sack.Board).Add
	_ func(*sack.Board, uint32) bool                             = (*sack.Board).Advance
	_ func(*sack.Board, uint32) bool                             = (*sack.Board).Has
	_ func(*sack.Board, uint32, uint32, int) (uint32, int, bool) = (*sack.Board).Hole
	_ func(*sack.Board) int                                      = (*sack.Board).Bytes
	_ func(*sack.Board) []api.Block                              = (*sack.Board).Blocks
	_ func(*sack.Board)                                          = (*sack.Board).Reset
	_ func(*sack.Board) uint32                                   = (*sack.Board).First
)

// Layer 25.
var (
	_ sbuf.Buffer
	_ func(int) (*sbuf.Buffer, api.Errno) = sbuf.New
	_ func(*sbuf.Buffer, []byte) int      = (*sbuf.Buffer).Write
	_ func(*sbuf.Buffer, int, int) []byte = (*sbuf.Buffer).Peek
	_ func(*sbuf.Buffer, int) api.Errno   = (*sbuf.Buffer).Drop
	_ func(*sbuf.Buffer) int              = (*sbuf.Buffer).Len
	_ func(*sbuf.Buffer) int              = (*sbuf.Buffer).Free
)

// Layer 26.
var (
	_ rbuf.Buffer
	_ func(int, uint32) (*rbuf.Buffer, api.Errno) = rbuf.New
	_ func(*rbuf.Buffer, uint32, []byte) int      = (*rbuf.Buffer).Insert
	_ func(*rbuf.Buffer, int) []byte              = (*rbuf.Buffer).Read
	_ func(*rbuf.Buffer) uint32                   = (*rbuf.Buffer).Next
	_ func(*rbuf.Buffer) int                      = (*rbuf.Buffer).Window
	_ func(*rbuf.Buffer) int                      = (*rbuf.Buffer).Len
	_ func(*rbuf.Buffer, int) []api.Block         = (*rbuf.Buffer).Blocks
	_ func(*rbuf.Buffer) int                      = (*rbuf.Buffer).Out
)

// Layer 27.
var (
	_ [0]struct{} = [tcb.Closed]struct{}{}
	_ [1]struct{} = [tcb.SynSent]struct{}{}
	_ [2]struct{} = [tcb.SynRcvd]struct{}{}
	_ [3]struct{} = [tcb.Estab]struct{}{}
	_ [4]struct{} = [tcb.FinWait1]struct{}{}
	_ [5]struct{} = [tcb.FinWait2]struct{}{}
	_ [6]struct{} = [tcb.CloseWait]struct{}{}
	_ [7]struct{} = [tcb.Closing]struct{}{}
	_ [8]struct{} = [tcb.LastAck]struct{}{}
	_ [9]struct{} = [tcb.TimeWait]struct{}{}
	_             = struct {
		MSS   int
		Room  int
		Sack  bool
		Times bool
		Scale bool
		Shift uint8
		Nagle bool
		Keep  bool
		Extra int
	}(tcb.Setting{})
	_ tcb.TCB
	_ func(tcb.Setting) bool                                          = tcb.May
	_ func(int64, tcb.Setting, uint32) (*tcb.TCB, api.Errno)          = tcb.Active
	_ func(int64, tcb.Setting, uint32, api.Seg) (*tcb.TCB, api.Errno) = tcb.Passive
	_ func(*tcb.TCB, int64, api.Seg)                                  = (*tcb.TCB).Arrive
	_ func(*tcb.TCB, int64, []byte) (int, api.Errno)                  = (*tcb.TCB).Write
	_ func(*tcb.TCB, int64, int) ([]byte, bool, api.Errno)            = (*tcb.TCB).Read
	_ func(*tcb.TCB, int64) api.Errno                                 = (*tcb.TCB).Close
	_ func(*tcb.TCB, int64) api.Errno                                 = (*tcb.TCB).Abort
	_ func(*tcb.TCB, int64)                                           = (*tcb.TCB).Tick
	_ func(*tcb.TCB) []api.Seg                                        = (*tcb.TCB).Out
	_ func(*tcb.TCB) int                                              = (*tcb.TCB).State
	_ func(*tcb.TCB) api.Errno                                        = (*tcb.TCB).Err
	_ func(*tcb.TCB) bool                                             = (*tcb.TCB).Readable
	_ func(*tcb.TCB) int                                              = (*tcb.TCB).Free
	_ func(*tcb.TCB, int64, int)                                      = (*tcb.TCB).Smaller
	_ func(*tcb.TCB) (uint32, uint32)                                 = (*tcb.TCB).Numbers
	_ func(*tcb.TCB) int64                                            = (*tcb.TCB).Due
)

// Layer 28.
var (
	_ = struct {
		Pair api.Pair
		Seg  api.Seg
	}(sock.Way{})
	_ sock.Table
	_ func(tcb.Setting) (*sock.Table, api.Errno)                                        = sock.New
	_ func(*sock.Table, uint16, int) (int, api.Errno)                                   = (*sock.Table).Listen
	_ func(*sock.Table, int64, api.Addr, uint16, api.End, uint32, int) (int, api.Errno) = (*sock.Table).Connect
	_ func(*sock.Table, int) (int, api.Errno)                                           = (*sock.Table).Accept
	_ func(*sock.Table, int64, int, []byte) (int, api.Errno)                            = (*sock.Table).Write
	_ func(*sock.Table, int64, int, int) ([]byte, bool, api.Errno)                      = (*sock.Table).Read
	_ func(*sock.Table, int64, int) api.Errno                                           = (*sock.Table).Shut
	_ func(*sock.Table, int64, int) api.Errno                                           = (*sock.Table).Close
	_ func(*sock.Table, int64, api.Pair, api.Seg, uint32, int, bool)                    = (*sock.Table).Arrive
	_ func(*sock.Table, int64)                                                          = (*sock.Table).Tick
	_ func(*sock.Table) []sock.Way                                                      = (*sock.Table).Out
	_ func(*sock.Table, int) (int, api.Errno)                                           = (*sock.Table).State
	_ func(*sock.Table, int) (bool, int, api.Errno)                                     = (*sock.Table).Poll
	_ func(*sock.Table, int) (api.Pair, api.Errno)                                      = (*sock.Table).Pair
	_ func(*sock.Table, api.Pair) *tcb.TCB                                              = (*sock.Table).Find
	_ func(*sock.Table) []api.Pair                                                      = (*sock.Table).Pairs
	_ func(*sock.Table, uint16) bool                                                    = (*sock.Table).Listens
	_ func(*sock.Table) int64                                                           = (*sock.Table).Due
)

// Layer 29.
var (
	_ = struct {
		Addrs []api.Addr
		MTU   int
		TCP   tcb.Setting
	}(host.Setting{})
	_ = struct {
		Alg   int
		Key   string
		Bytes string
	}(host.Record{})
	_ host.Host
	_ func(host.Setting) (*host.Host, api.Errno)                          = host.New
	_ func(*host.Host, bool) (api.Addr, bool)                             = (*host.Host).Addr
	_ func(*host.Host, uint32)                                            = (*host.Host).Number
	_ func(*host.Host, route.Way) api.Errno                               = (*host.Host).Way
	_ func(*host.Host, mkt.Key) (int, api.Errno)                          = (*host.Host).AddKey
	_ func(*host.Host, int) api.Errno                                     = (*host.Host).DropKey
	_ func(*host.Host, int, int) api.Errno                                = (*host.Host).Prefer
	_ func(*host.Host, int) (uint8, uint8, api.Errno)                     = (*host.Host).Keys
	_ func(*host.Host, uint16, int) (int, api.Errno)                      = (*host.Host).Listen
	_ func(*host.Host, int64, api.Addr, uint16, api.End) (int, api.Errno) = (*host.Host).Connect
	_ func(*host.Host, int) (int, api.Errno)                              = (*host.Host).Accept
	_ func(*host.Host, int64, int, []byte) (int, api.Errno)               = (*host.Host).Write
	_ func(*host.Host, int64, int, int) ([]byte, bool, api.Errno)         = (*host.Host).Read
	_ func(*host.Host, int64, int) api.Errno                              = (*host.Host).Shut
	_ func(*host.Host, int64, int) api.Errno                              = (*host.Host).Close
	_ func(*host.Host, int) (int, api.Errno)                              = (*host.Host).State
	_ func(*host.Host, int) (bool, int, api.Errno)                        = (*host.Host).Poll
	_ func(*host.Host, int) (api.Pair, api.Errno)                         = (*host.Host).Pair
	_ func(*host.Host, api.Addr, uint16, uint16, []byte) api.Errno        = (*host.Host).Ping
	_ func(*host.Host, int64, []byte)                                     = (*host.Host).Arrive
	_ func(*host.Host, int64)                                             = (*host.Host).Tick
	_ func(*host.Host) [][]byte                                           = (*host.Host).Out
	_ func(*host.Host) []host.Record                                      = (*host.Host).Signed
	_ func(*host.Host) []host.Record                                      = (*host.Host).Taken
	_ func(*host.Host) int64                                              = (*host.Host).Due
)

// Layer 30.
var (
	_ = struct {
		Loss   float64
		Double float64
		Mean   float64
		Most   int
	}(net.Chances{})
	_ net.Net
	_ func([]host.Setting, net.Chances) (*net.Net, api.Errno) = net.New
	_ func(*net.Net, int) *host.Host                          = (*net.Net).Host
	_ func(*net.Net, float64, float64, float64)               = (*net.Net).Draws
	_ func(*net.Net, net.Chances)                             = (*net.Net).Chances
	_ func(*net.Net)                                          = (*net.Net).Gather
	_ func(*net.Net, int64) int                               = (*net.Net).Run
	_ func(*net.Net, int) api.Errno                           = (*net.Net).Again
	_ func(*net.Net, int, int) api.Errno                      = (*net.Net).Mutate
	_ func(*net.Net, []byte) api.Errno                        = (*net.Net).Inject
	_ func(*net.Net, int) api.Errno                           = (*net.Net).Reboot
	_ func(*net.Net) int                                      = (*net.Net).Emissions
	_ func(*net.Net, int) []byte                              = (*net.Net).Bytes
	_ func(*net.Net) int                                      = (*net.Net).Under
	_ func(*net.Net) int64                                    = (*net.Net).Now
	_ func(*net.Net) bool                                     = (*net.Net).Witness
)

// Layer 31.
var (
	_ [1]struct{}  = [script.Listen]struct{}{}
	_ [2]struct{}  = [script.Connect]struct{}{}
	_ [3]struct{}  = [script.Accept]struct{}{}
	_ [4]struct{}  = [script.Write]struct{}{}
	_ [5]struct{}  = [script.Read]struct{}{}
	_ [6]struct{}  = [script.Shut]struct{}{}
	_ [7]struct{}  = [script.Close]struct{}{}
	_ [8]struct{}  = [script.Run]struct{}{}
	_ [9]struct{}  = [script.Again]struct{}{}
	_ [10]struct{} = [script.Mutate]struct{}{}
	_ [11]struct{} = [script.Inject]struct{}{}
	_ [12]struct{} = [script.Reboot]struct{}{}
	_ [13]struct{} = [script.Ping]struct{}{}
	_ [14]struct{} = [script.Draws]struct{}{}
	_ [15]struct{} = [script.Drop]struct{}{}
	_ [16]struct{} = [script.Prefer]struct{}{}
	_              = struct {
		Verb  int
		A     int
		B     int
		C     int
		Port  uint16
		Addr  api.Addr
		Bytes []byte
	}(script.Step{})
	_ = struct {
		N     int
		Err   api.Errno
		Bytes []byte
		End   bool
	}(script.Told{})
	_ func(script.Step) bool                       = script.May
	_ func(script.Step) (string, api.Errno)        = script.Line
	_ func(string) (script.Step, api.Errno)        = script.Step1
	_ func([]script.Step) (string, api.Errno)      = script.Text
	_ func(string) ([]script.Step, int, api.Errno) = script.Parse
	_ func(script.Step, script.Step) bool          = script.Same
	_ func(*net.Net, script.Step) script.Told      = script.Play
)

// Layer 32.
var (
	_ func([]byte) (string, api.Errno) = dump.Line
	_ func(uint8) string               = dump.Flags
	_ func(api.Seg) string             = dump.Segment
	_ func(icmp.Msg) string            = dump.Message
)
