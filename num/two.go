package num

import (
	"math"

	"jvmcore/api"
)

// What 96 to 115 do, four by four: of int, long, float, double.
const (
	sum = iota
	difference
	product
	quotient
)

// reckoned: 96 to 115.
func reckoned(op uint8, a, b uint64) (uint64, api.Errno) {
	what := (op - 96) / 4
	switch op % 4 {
	case 0:
		x, errno := ofWhole(what, int32(a), int32(b))
		return ofInt(x), errno
	case 1:
		x, errno := ofWhole(what, int64(a), int64(b))
		return uint64(x), errno
	case 2:
		return ofFloat(ofParts(what, toFloat(a), toFloat(b))), api.OK
	}
	return ofDouble(ofParts(what, toDouble(a), toDouble(b))), api.OK
}

// ofWhole: 96 to 115 of whole numbers: the language wraps them round, the lowest by -1 too.
func ofWhole[N int32 | int64](what uint8, a, b N) (N, api.Errno) {
	switch what {
	case sum:
		return a + b, api.OK
	case difference:
		return a - b, api.OK
	case product:
		return a * b, api.OK
	}
	if b == 0 {
		return 0, api.ErrDivide
	}
	if what == quotient {
		return a / b, api.OK
	}
	return a % b, api.OK
}

// ofParts: 96 to 115 of numbers with parts.
func ofParts[N float32 | float64](what uint8, a, b N) N {
	switch what {
	case sum:
		return a + b
	case difference:
		return a - b
	case product:
		return a * b
	case quotient:
		return a / b
	}
	// What is left of two floats is a float: nothing is rounded on the way.
	return N(math.Mod(float64(a), float64(b)))
}

// moved: 120 to 125: the language would move by all of b, of which only the lowest bits count.
func moved(op uint8, a, b uint64) uint64 {
	switch op {
	case 120:
		return uint64(uint32(a) << (b & 31))
	case 121:
		return a << (b & 63)
	case 122:
		return ofInt(int32(a) >> (b & 31))
	case 123:
		return uint64(int64(a) >> (b & 63))
	case 124:
		return uint64(uint32(a) >> (b & 31))
	}
	return a >> (b & 63)
}

// joined: 126 to 131: of ints too the bits above the lowest 32 are taken as they are.
func joined(op uint8, a, b uint64) uint64 {
	switch op {
	case 126, 127:
		return a & b
	case 128, 129:
		return a | b
	}
	return a ^ b
}

// compared: 148 to 152.
func compared(op uint8, a, b uint64) uint64 {
	switch op {
	case 148:
		return ofInt(order(int64(a), int64(b), 0))
	case 149:
		return ofInt(order(toFloat(a), toFloat(b), -1))
	case 150:
		return ofInt(order(toFloat(a), toFloat(b), 1))
	case 151:
		return ofInt(order(toDouble(a), toDouble(b), -1))
	}
	return ofInt(order(toDouble(a), toDouble(b), 1))
}

// order: -1, 0 or 1; none, if one of them is no number.
func order[N int64 | float32 | float64](a, b N, none int32) int32 {
	switch {
	case a < b:
		return -1
	case a == b:
		return 0
	case a > b:
		return 1
	}
	return none
}
