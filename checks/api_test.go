package checks

import (
	"testing"

	"downhaul/api"
)

// TestErrors: each error's number, and its text.
func TestErrors(t *testing.T) {
	for n, e := range []api.Errno{
		api.OK, api.ErrArg, api.ErrNil, api.ErrForm, api.ErrEnd, api.ErrMany, api.ErrNone, api.ErrThere, api.ErrSum,
		api.ErrFull, api.ErrState, api.ErrKind, api.ErrKey, api.ErrMac, api.ErrRefused, api.ErrReset, api.ErrTime, api.ErrRoute,
	} {
		if int(e) != n {
			t.Errorf("error %d has the number %d", n, int(e))
		}
	}
	var err error = api.ErrRoute
	if err.Error() != "error 17" {
		t.Error(err)
	}
}

// TestLimits: the limits, and the flags.
func TestLimits(t *testing.T) {
	for _, c := range [][2]int{
		{api.MaxPacket, 65535}, {api.MaxData, 16384}, {api.MaxBuf, 8192}, {api.MaxKeys, 32}, {api.MaxFrags, 64},
		{api.MaxSocks, 32}, {api.MaxHosts, 4}, {api.MaxTime, 1 << 40},
		{api.Fin, 1}, {api.Syn, 2}, {api.Rst, 4}, {api.Psh, 8}, {api.Ack, 16}, {api.Urg, 32},
	} {
		if c[0] != c[1] {
			t.Errorf("%d, not %d", c[0], c[1])
		}
	}
}
