// Package ring is layer 1: sequence numbers, which go round: see shared/doc/01-ring.md.
package ring

import (
	"math"

	"downhaul/api"
)

// turn is how far two long numbers of the same lowest bits are apart.
const turn = 1 << 32

// Diff is how far b is ahead of a.
func Diff(a, b uint32) int32 { return int32(b - a) }

// Before tells whether a is before b. Of two that are 2^31 apart each is behind the other by Diff, so neither is.
func Before(a, b uint32) bool { return Diff(a, b) > 0 }

// Max is the last one that is taken, if from first on each that is ahead of the one taken so far is.
func Max(first uint32, more ...uint32) uint32 {
	taken := first
	for _, n := range more {
		if Before(taken, n) {
			taken = n
		}
	}
	return taken
}

// In tells whether n is in the window of that begin and size.
func In(n, begin uint32, size uint32) bool { return n-begin < size }

// Between tells whether n is in the window that begins behind a, and whose last number is b.
func Between(n, a, b uint32) bool { return In(n, a+1, b-a) }

// Overlap tells whether some number is in both runs.
func Overlap(a api.Block, b api.Block) bool {
	// A run of no number may begin within the other one.
	if a.Left == a.Right || b.Left == b.Right {
		return false
	}
	return inRun(a.Left, b) || inRun(b.Left, a)
}

// inRun tells whether n is in a run.
func inRun(n uint32, run api.Block) bool { return In(n, run.Left, run.Right-run.Left) }

// Long is the long number nearest to near whose lowest 32 bits are n.
func Long(near uint64, n uint32) uint64 {
	d := int64(Diff(uint32(near), n))
	if d < 0 {
		back := uint64(-d)
		if near < back {
			return near + (turn - back)
		}
		return near - back
	}
	ahead := uint64(d)
	if near > math.MaxUint64-ahead {
		return near - (turn - ahead)
	}
	return near + ahead
}

// Accept tells whether a segment of length numbers from seq on is acceptable in that window.
func Accept(begin uint32, size uint32, seq uint32, length uint32) bool {
	switch {
	case length == 0 && size == 0:
		return seq == begin
	case length == 0:
		return In(seq, begin, size)
	}
	return In(seq, begin, size) || In(seq+length-1, begin, size)
}
