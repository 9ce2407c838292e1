package num

import "math"

// The bits of no number: hardware gives others, and hands on those that came in.
const (
	noFloat  = 0x7fc00000
	noDouble = 0x7ff8000000000000
)

// toFloat, toDouble: the numbers of bits.
func toFloat(a uint64) float32 { return math.Float32frombits(uint32(a)) }

func toDouble(a uint64) float64 { return math.Float64frombits(a) }

// ofInt, ofFloat, ofDouble: the bits of numbers, as they are given.
func ofInt(x int32) uint64 { return uint64(uint32(x)) }

func ofFloat(x float32) uint64 {
	if x != x {
		return noFloat
	}
	return uint64(math.Float32bits(x))
}

func ofDouble(x float64) uint64 {
	if x != x {
		return noDouble
	}
	return math.Float64bits(x)
}
