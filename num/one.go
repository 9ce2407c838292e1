package num

import "math"

// less: 116 to 119.
func less(op uint8, a uint64) uint64 {
	switch op {
	case 116:
		return ofInt(-int32(a))
	case 117:
		return -a
	case 118:
		return ofFloat(-toFloat(a))
	}
	return ofDouble(-toDouble(a))
}

// fromWhole: 133 to 138: int and long to others.
func fromWhole(op uint8, a uint64) uint64 {
	switch op {
	case 133:
		return uint64(int32(a))
	case 134:
		return ofFloat(float32(int32(a)))
	case 135:
		return ofDouble(float64(int32(a)))
	case 136:
		return ofInt(int32(a))
	case 137:
		return ofFloat(float32(int64(a)))
	}
	return ofDouble(float64(int64(a)))
}

// fromParts: 139 to 144: float and double to others.
func fromParts(op uint8, a uint64) uint64 {
	switch op {
	case 139:
		return ofInt(cut(toFloat(a), int32(math.MinInt32), math.MaxInt32))
	case 140:
		return uint64(cut(toFloat(a), int64(math.MinInt64), math.MaxInt64))
	case 141:
		return ofDouble(float64(toFloat(a)))
	case 142:
		return ofInt(cut(toDouble(a), int32(math.MinInt32), math.MaxInt32))
	case 143:
		return uint64(cut(toDouble(a), int64(math.MinInt64), math.MaxInt64))
	}
	return ofFloat(float32(toDouble(a)))
}

// cut: x rounded towards 0, but no further than the lowest and the highest: beyond them the language leaves open what a
// conversion gives. P(highest) may be rounded up, and is beyond itself then.
func cut[P float32 | float64, N int32 | int64](x P, lowest, highest N) N {
	switch {
	case x != x:
		return 0
	case x <= P(lowest):
		return lowest
	case x >= P(highest):
		return highest
	}
	return N(x)
}

// narrowed: 145 to 147.
func narrowed(op uint8, a uint64) uint64 {
	switch op {
	case 145:
		return ofInt(int32(int8(a)))
	case 146:
		return uint64(uint16(a))
	}
	return ofInt(int32(int16(a)))
}
