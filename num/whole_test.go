package num

import (
	"testing"

	"jvmcore/api"
)

const (
	lowInt   = 0x80000000
	highInt  = 0x7fffffff
	lowLong  = 1 << 63
	highLong = 1<<63 - 1
	above    = 0xabcdef0100000000
)

// n, l: bits of an int, of a long.
func n(x int32) uint64 { return uint64(uint32(x)) }

func l(x int64) uint64 { return uint64(x) }

func TestWholeSumsAndProducts(t *testing.T) {
	twos(t,
		row{96, n(2), n(3), n(5)}, row{96, highInt, 1, lowInt}, row{96, lowInt, n(-1), highInt}, row{96, lowInt, lowInt, 0}, row{96, above | 7, above | n(-9), n(-2)},
		row{97, 2, 3, 5}, row{97, highLong, 1, lowLong}, row{97, lowLong, l(-1), highLong}, row{97, lowLong, lowLong, 0}, row{97, 0xffffffff, 1, 1 << 32},
		row{100, n(2), n(3), n(-1)}, row{100, lowInt, 1, highInt}, row{100, 0, lowInt, lowInt}, row{100, above, 1, n(-1)}, row{100, 0, above | 1, n(-1)},
		row{101, 2, 3, l(-1)}, row{101, lowLong, 1, highLong}, row{101, 0, lowLong, lowLong}, row{101, 1 << 32, 1, 0xffffffff},
		row{104, n(-4), n(6), n(-24)}, row{104, 0x10000, 0x10000, 0}, row{104, 0x10000, 0x8000, lowInt}, row{104, lowInt, n(-1), lowInt}, row{104, above | 0x12345, 0x10001, 0x23462345}, row{104, n(-1), above | n(-1), 1},
		row{105, l(-4), 6, l(-24)}, row{105, 1 << 32, 1 << 32, 0}, row{105, 1 << 32, 1 << 31, lowLong}, row{105, lowLong, l(-1), lowLong})
}

func TestWholeQuotients(t *testing.T) {
	twos(t,
		row{108, 7, 2, 3}, row{108, n(-7), 2, n(-3)}, row{108, 7, n(-2), n(-3)}, row{108, n(-7), n(-2), 3}, row{108, 1, 2, 0}, row{108, n(-1), 2, 0}, row{108, 0, n(-5), 0},
		row{108, lowInt, n(-1), lowInt}, row{108, above | lowInt, above | n(-1), lowInt}, row{108, lowInt, 1, lowInt}, row{108, lowInt, lowInt, 1}, row{108, highInt, lowInt, 0}, row{108, lowInt, highInt, n(-1)},
		row{109, 7, 2, 3}, row{109, l(-7), 2, l(-3)}, row{109, 7, l(-2), l(-3)}, row{109, l(-7), l(-2), 3}, row{109, 1, 2, 0}, row{109, l(-1), 2, 0}, row{109, lowInt, n(-1), 0},
		row{109, lowLong, l(-1), lowLong}, row{109, lowLong, 1, lowLong}, row{109, lowLong, lowLong, 1}, row{109, highLong, lowLong, 0}, row{109, 1 << 40, 1 << 32, 256})
}

func TestWholeLeft(t *testing.T) {
	twos(t,
		row{112, 7, 2, 1}, row{112, n(-7), 2, n(-1)}, row{112, 7, n(-2), 1}, row{112, n(-7), n(-2), n(-1)}, row{112, 6, 3, 0}, row{112, n(-6), 3, 0}, row{112, 2, 5, 2}, row{112, n(-2), n(-5), n(-2)},
		row{112, lowInt, n(-1), 0}, row{112, above | lowInt, above | n(-1), 0}, row{112, lowInt, highInt, n(-1)}, row{112, highInt, lowInt, highInt}, row{112, lowInt, lowInt, 0},
		row{113, 7, 2, 1}, row{113, l(-7), 2, l(-1)}, row{113, 7, l(-2), 1}, row{113, l(-7), l(-2), l(-1)}, row{113, 2, 5, 2}, row{113, 1<<32 + 5, 1 << 32, 5},
		row{113, lowLong, l(-1), 0}, row{113, lowLong, highLong, l(-1)}, row{113, highLong, lowLong, highLong}, row{113, lowLong, lowLong, 0})
}

func TestByNothing(t *testing.T) {
	for _, op := range []uint8{108, 109, 112, 113} {
		for _, a := range bits() {
			if x, errno := Two(op, a, 0); x != 0 || errno != api.ErrDivide {
				t.Errorf("Two(%d, %x, 0) = %x, %d", op, a, x, errno)
			}
		}
	}
	for _, op := range []uint8{108, 112} {
		if x, errno := Two(op, 5, above); x != 0 || errno != api.ErrDivide {
			t.Errorf("Two(%d, 5, %x) = %x, %d", op, uint64(above), x, errno)
		}
	}
	twos(t, row{109, above, above, 1}, row{113, 5, above, 5})
}

func TestMoves(t *testing.T) {
	twos(t,
		row{120, 1, 0, 1}, row{120, 1, 31, lowInt}, row{120, 1, 32, 1}, row{120, 1, 33, 2}, row{120, 1, n(-1), lowInt}, row{120, 3, 31, lowInt}, row{120, above | 1, above | 4, 16}, row{120, 1, 63, lowInt}, row{120, 0xffffffff, 4, 0xfffffff0},
		row{121, 1, 0, 1}, row{121, 1, 32, 1 << 32}, row{121, 1, 63, lowLong}, row{121, 1, 64, 1}, row{121, 1, 65, 2}, row{121, 1, n(-1), lowLong}, row{121, 1, n(-64), 1}, row{121, 1, above | 4, 16}, row{121, 3, 63, lowLong},
		row{122, n(-8), 1, n(-4)}, row{122, n(-8), 31, n(-1)}, row{122, n(-8), 32, n(-8)}, row{122, 8, 33, 4}, row{122, lowInt, n(-1), n(-1)}, row{122, highInt, 30, 1}, row{122, above | 8, above | 1, 4}, row{122, above | n(-8), 0, n(-8)}, row{122, n(-1), 5, n(-1)},
		row{123, l(-8), 1, l(-4)}, row{123, l(-8), 63, l(-1)}, row{123, l(-8), 64, l(-8)}, row{123, 8, 65, 4}, row{123, lowLong, n(-1), l(-1)}, row{123, lowLong, 32, 0xffffffff80000000}, row{123, highLong, 62, 1}, row{123, 8, above | 1, 4},
		row{124, n(-8), 1, 0x7ffffffc}, row{124, n(-8), 31, 1}, row{124, n(-8), 32, n(-8)}, row{124, 8, 33, 4}, row{124, lowInt, n(-1), 1}, row{124, above | 8, above | 1, 4}, row{124, above | n(-1), 0, n(-1)}, row{124, above, 1, 0},
		row{125, l(-8), 1, 0x7ffffffffffffffc}, row{125, l(-8), 63, 1}, row{125, l(-8), 64, l(-8)}, row{125, 8, 65, 4}, row{125, lowLong, n(-1), 1}, row{125, lowLong, 32, lowInt}, row{125, 8, above | 1, 4})
}

// Of ints too all 64 bits are taken as they are.
func TestJoinedBits(t *testing.T) {
	const a, b = 0xff00ff0012345678, 0x0ff00ff0fedcba98
	twos(t,
		row{126, a, b, a & b}, row{127, a, b, a & b}, row{128, a, b, a | b}, row{129, a, b, a | b}, row{130, a, b, a ^ b}, row{131, a, b, a ^ b},
		row{126, above, above, above}, row{126, above | 6, 3, 2}, row{128, above, 5, above | 5}, row{130, above | 5, above | 6, 3}, row{130, above, 0, above},
		row{126, 12, 10, 8}, row{128, 12, 10, 14}, row{130, 12, 10, 6}, row{127, 1 << 63, 1<<64 - 1, 1 << 63}, row{129, 1 << 63, 1, 1<<63 | 1}, row{131, 1<<64 - 1, 1, 1<<64 - 2},
		row{126, 0, n(-1), 0}, row{128, 0, 0, 0}, row{130, n(-1), n(-1), 0})
}

func TestComparedLongs(t *testing.T) {
	twos(t,
		row{148, 1, 2, n(-1)}, row{148, 2, 1, 1}, row{148, 2, 2, 0}, row{148, lowLong, highLong, n(-1)}, row{148, highLong, lowLong, 1}, row{148, l(-1), 0, n(-1)}, row{148, 0, l(-1), 1},
		row{148, lowLong, lowLong, 0}, row{148, 1 << 32, 0, 1}, row{148, 0, 1 << 32, n(-1)}, row{148, n(-1), 0, 1}, row{148, l(-2), l(-1), n(-1)})
}

func TestLessWhole(t *testing.T) {
	ones(t,
		row{116, 0, 0, 0}, row{116, 1, 0, n(-1)}, row{116, n(-1), 0, 1}, row{116, lowInt, 0, lowInt}, row{116, highInt, 0, lowInt + 1}, row{116, above, 0, 0}, row{116, above | 1, 0, n(-1)},
		row{117, 0, 0, 0}, row{117, 1, 0, l(-1)}, row{117, l(-1), 0, 1}, row{117, lowLong, 0, lowLong}, row{117, highLong, 0, lowLong + 1}, row{117, 1 << 32, 0, l(-1 << 32)})
}

func TestWholeToWhole(t *testing.T) {
	ones(t,
		row{133, 0, 0, 0}, row{133, 5, 0, 5}, row{133, n(-5), 0, l(-5)}, row{133, lowInt, 0, l(-1 << 31)}, row{133, highInt, 0, highInt}, row{133, above | 5, 0, 5}, row{133, above | n(-1), 0, l(-1)},
		row{136, 5, 0, 5}, row{136, l(-5), 0, n(-5)}, row{136, 1 << 32, 0, 0}, row{136, above | lowInt, 0, lowInt}, row{136, lowLong, 0, 0}, row{136, highLong, 0, n(-1)})
}

func TestNarrowed(t *testing.T) {
	ones(t,
		row{145, 0, 0, 0}, row{145, 127, 0, 127}, row{145, 128, 0, n(-128)}, row{145, n(-128), 0, n(-128)}, row{145, n(-129), 0, 127}, row{145, 255, 0, n(-1)}, row{145, 256, 0, 0}, row{145, n(-1), 0, n(-1)}, row{145, lowInt, 0, 0}, row{145, above | 0x80, 0, n(-128)},
		row{146, 0, 0, 0}, row{146, 0x7fff, 0, 0x7fff}, row{146, 0x8000, 0, 0x8000}, row{146, 0xffff, 0, 0xffff}, row{146, 0x10000, 0, 0}, row{146, n(-1), 0, 0xffff}, row{146, n(-0x8001), 0, 0x7fff}, row{146, lowInt, 0, 0}, row{146, above | 0x8000, 0, 0x8000},
		row{147, 0, 0, 0}, row{147, 0x7fff, 0, 0x7fff}, row{147, 0x8000, 0, n(-0x8000)}, row{147, n(-0x8000), 0, n(-0x8000)}, row{147, n(-0x8001), 0, 0x7fff}, row{147, 0xffff, 0, n(-1)}, row{147, 0x10000, 0, 0}, row{147, highInt, 0, n(-1)}, row{147, above | 0x8000, 0, n(-0x8000)})
}
