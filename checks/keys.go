package checks

import "math"

// NoAlgs are numbers that are none of layer 8's algorithms, among them some whose lowest bits are one.
func NoAlgs() []int {
	return []int{0, 3, 4, 16, 20, 255, 256, 257, 258, 1<<16 + 1, 1<<32 + 1, 1<<32 + 2, math.MaxInt, -1, -2, -3, -255, -254, math.MinInt, math.MinInt + 1, math.MinInt + 2}
}
