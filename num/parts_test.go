package num

import "testing"

// Floats and doubles by their bits.
const (
	fNeg, fInf, fNone, fOne, fHalf, fTwo, fMax, fNormal = 0x80000000, 0x7f800000, 0x7fc00000, 0x3f800000, 0x3f000000, 0x40000000, 0x7f7fffff, 0x00800000
	dNeg, dInf, dNone, dOne                             = 1 << 63, 0x7ff0000000000000, 0x7ff8000000000000, 0x3ff0000000000000
	dHalf, dTwo, dMax, dNormal                          = 0x3fe0000000000000, 0x4000000000000000, 0x7fefffffffffffff, 0x0010000000000000
)

func TestZeroes(t *testing.T) {
	twos(t,
		row{98, 0, 0, 0}, row{98, 0, fNeg, 0}, row{98, fNeg, 0, 0}, row{98, fNeg, fNeg, fNeg}, row{98, fOne, fNeg | fOne, 0}, row{98, fNeg, fOne, fOne},
		row{102, 0, 0, 0}, row{102, 0, fNeg, 0}, row{102, fNeg, 0, fNeg}, row{102, fNeg, fNeg, 0}, row{102, fOne, fOne, 0}, row{102, fNeg | fOne, fNeg | fOne, 0},
		row{106, 0, 0, 0}, row{106, 0, fNeg, fNeg}, row{106, fNeg, 0, fNeg}, row{106, fNeg, fNeg, 0}, row{106, 0, fNeg | fOne, fNeg},
		row{110, 0, 0, fNone}, row{110, fNeg, 0, fNone}, row{110, 0, fOne, 0}, row{110, 0, fNeg | fOne, fNeg}, row{110, fNeg, fOne, fNeg}, row{110, fOne, 0, fInf}, row{110, fOne, fNeg, fNeg | fInf}, row{110, fNeg | fOne, fNeg, fInf},
		row{114, 0, fOne, 0}, row{114, fNeg, fOne, fNeg}, row{114, fNeg, fNeg | fOne, fNeg}, row{114, 0, 0, fNone}, row{114, fOne, fNeg, fNone}, row{114, fNeg, 0, fNone},
		row{99, 0, 0, 0}, row{99, 0, dNeg, 0}, row{99, dNeg, 0, 0}, row{99, dNeg, dNeg, dNeg}, row{99, dOne, dNeg | dOne, 0},
		row{103, 0, 0, 0}, row{103, 0, dNeg, 0}, row{103, dNeg, 0, dNeg}, row{103, dNeg, dNeg, 0}, row{103, dOne, dOne, 0},
		row{107, 0, dNeg, dNeg}, row{107, dNeg, 0, dNeg}, row{107, dNeg, dNeg, 0},
		row{111, 0, 0, dNone}, row{111, 0, dNeg | dOne, dNeg}, row{111, dOne, 0, dInf}, row{111, dOne, dNeg, dNeg | dInf}, row{111, dNeg | dOne, dNeg, dInf},
		row{115, 0, dOne, 0}, row{115, dNeg, dOne, dNeg}, row{115, dNeg, dNeg | dOne, dNeg}, row{115, 0, 0, dNone}, row{115, dOne, dNeg, dNone})
}

func TestWithoutAnEnd(t *testing.T) {
	twos(t,
		row{98, fInf, fInf, fInf}, row{98, fInf, fNeg | fInf, fNone}, row{98, fNeg | fInf, fInf, fNone}, row{98, fMax, fInf, fInf}, row{98, fNeg | fInf, fMax, fNeg | fInf},
		row{102, fInf, fInf, fNone}, row{102, fNeg | fInf, fNeg | fInf, fNone}, row{102, fInf, fNeg | fInf, fInf}, row{102, fOne, fInf, fNeg | fInf},
		row{106, fInf, 0, fNone}, row{106, fNeg, fInf, fNone}, row{106, fInf, fNeg | fInf, fNeg | fInf}, row{106, fNeg | 1, fInf, fNeg | fInf},
		row{110, fInf, fInf, fNone}, row{110, fInf, fNeg | fInf, fNone}, row{110, fInf, 0, fInf}, row{110, fInf, fNeg, fNeg | fInf}, row{110, fOne, fInf, 0}, row{110, fMax, fNeg | fInf, fNeg}, row{110, 0, fInf, 0},
		row{114, fInf, fOne, fNone}, row{114, fNeg | fInf, fInf, fNone}, row{114, fOne, fInf, fOne}, row{114, fNeg | fOne, fInf, fNeg | fOne}, row{114, fNeg, fNeg | fInf, fNeg}, row{114, fMax, fNeg | fInf, fMax},
		row{99, dInf, dInf, dInf}, row{99, dInf, dNeg | dInf, dNone}, row{99, dMax, dInf, dInf},
		row{103, dInf, dInf, dNone}, row{103, dNeg | dInf, dInf, dNeg | dInf},
		row{107, dInf, 0, dNone}, row{107, dNeg, dInf, dNone}, row{107, dNeg | 1, dInf, dNeg | dInf},
		row{111, dInf, dNeg | dInf, dNone}, row{111, dInf, dNeg, dNeg | dInf}, row{111, dMax, dNeg | dInf, dNeg},
		row{115, dInf, dOne, dNone}, row{115, dInf, dInf, dNone}, row{115, dNeg | dOne, dInf, dNeg | dOne}, row{115, dNeg, dNeg | dInf, dNeg})
}

func TestNoNumber(t *testing.T) {
	for _, none := range []uint64{fInf + 1, fNone, fNone + 5, 0x7fffffff, fNeg | fInf + 1, fNeg | fNone, 0xffffffff, above | fNeg | fNone} {
		for _, other := range []uint64{0, fNeg, 1, fOne, fMax, fInf, fNeg | fInf, fInf + 2, fNone} {
			for _, op := range []uint8{98, 102, 106, 110, 114} {
				twos(t, row{op, none, other, fNone}, row{op, other, none, fNone})
			}
			twos(t, row{149, none, other, n(-1)}, row{149, other, none, n(-1)}, row{150, none, other, 1}, row{150, other, none, 1})
		}
		ones(t, row{118, none, 0, fNone}, row{139, none, 0, 0}, row{140, none, 0, 0}, row{141, none, 0, dNone})
	}
	for _, none := range []uint64{dInf + 1, dNone, dNone + 5, 1<<63 - 1, dNeg | dInf + 1, dNeg | dNone, 1<<64 - 1} {
		for _, other := range []uint64{0, dNeg, 1, dOne, dMax, dInf, dNeg | dInf, dInf + 2, dNone} {
			for _, op := range []uint8{99, 103, 107, 111, 115} {
				twos(t, row{op, none, other, dNone}, row{op, other, none, dNone})
			}
			twos(t, row{151, none, other, n(-1)}, row{151, other, none, n(-1)}, row{152, none, other, 1}, row{152, other, none, 1})
		}
		ones(t, row{119, none, 0, dNone}, row{142, none, 0, 0}, row{143, none, 0, 0}, row{144, none, 0, fNone})
	}
}

// Of two as near the one whose last bit is 0.
func TestHalfway(t *testing.T) {
	twos(t,
		row{98, fOne, 0x33800000, fOne}, row{98, fOne, 0x33800001, fOne + 1}, row{98, fOne + 1, 0x33800000, fOne + 2}, row{98, fNeg | fOne + 1, fNeg | 0x33800000, fNeg | fOne + 2}, row{98, fOne, 0x337fffff, fOne},
		row{102, fOne, 0x33000000, fOne}, row{102, fOne, 0x33000001, fOne - 1}, row{102, fOne + 1, 0x33800000, fOne},
		row{106, fOne + 1, 0x3fc00000, 0x3fc00002}, row{106, fOne + 3, 0x3fc00000, 0x3fc00004}, row{106, fOne + 1, 0x40200000, 0x40200001},
		row{110, fOne, 0x40400000, 0x3eaaaaab}, row{110, fTwo, 0x40400000, 0x3f2aaaab},
		row{99, dOne, 0x3ca0000000000000, dOne}, row{99, dOne, 0x3ca0000000000001, dOne + 1}, row{99, dOne + 1, 0x3ca0000000000000, dOne + 2}, row{99, dOne, 0x3c9fffffffffffff, dOne},
		row{103, dOne, 0x3c90000000000000, dOne}, row{103, dOne, 0x3c90000000000001, dOne - 1},
		row{107, dOne + 1, 0x3ff8000000000000, 0x3ff8000000000002}, row{107, dOne + 3, 0x3ff8000000000000, 0x3ff8000000000004},
		row{111, dOne, 0x4008000000000000, 0x3fd5555555555555}, row{111, dTwo, 0x4008000000000000, 0x3fe5555555555555})
}

func TestBeyondTheHighest(t *testing.T) {
	twos(t,
		row{98, fMax, fMax, fInf}, row{98, fMax, 0x73000000, fInf}, row{98, fMax, 0x72ffffff, fMax}, row{98, fNeg | fMax, fNeg | 0x73000000, fNeg | fInf}, row{102, fMax, fNeg | fMax, fInf}, row{102, fNeg | fMax, 0x72ffffff, fNeg | fMax},
		row{106, fMax, fTwo, fInf}, row{106, fMax, fOne + 1, fInf}, row{106, fMax, fOne - 1, fMax - 1}, row{106, fMax, fNeg | fMax, fNeg | fInf},
		row{110, fMax, fHalf, fInf}, row{110, fMax, fOne - 1, fInf}, row{110, fNeg | fOne, 1, fNeg | fInf}, row{110, fMax, fOne + 1, fMax - 2},
		row{99, dMax, dMax, dInf}, row{99, dMax, 0x7c90000000000000, dInf}, row{99, dMax, 0x7c8fffffffffffff, dMax}, row{103, dNeg | dMax, dMax, dNeg | dInf},
		row{107, dMax, dTwo, dInf}, row{107, dMax, dOne + 1, dInf}, row{107, dMax, dNeg | dMax, dNeg | dInf},
		row{111, dMax, dHalf, dInf}, row{111, dMax, dOne - 1, dInf}, row{111, dNeg | dOne, 1, dNeg | dInf})
}

func TestBelowTheNormalOnes(t *testing.T) {
	twos(t,
		row{98, 1, 1, 2}, row{98, fNormal - 1, 1, fNormal}, row{98, 1, fNeg | 1, 0}, row{98, fNormal, fNeg | 1, fNormal - 1}, row{102, fNormal, fNormal + 1, fNeg | 1}, row{102, 1, 3, fNeg | 2}, row{98, fOne, 1, fOne},
		row{106, 1, fHalf, 0}, row{106, 3, fHalf, 2}, row{106, 5, fHalf, 2}, row{106, fNeg | 1, fHalf, fNeg}, row{106, 1, fHalf + 1, 1}, row{106, fNormal, fHalf, fNormal / 2}, row{106, fNormal + 1, fHalf, fNormal / 2}, row{106, fNormal + 3, fHalf, fNormal/2 + 2}, row{106, fNormal, fNormal, 0}, row{106, fNeg | 1, 1, fNeg}, row{106, 1, 0x4b000000, fNormal}, row{106, fNormal, fOne - 1, fNormal}, row{106, fNormal - 1, fTwo, 0x00fffffe},
		row{110, 1, fTwo, 0}, row{110, 3, fTwo, 2}, row{110, fNeg | 5, fTwo, fNeg | 2}, row{110, 7, fTwo, 4}, row{110, fNormal, fTwo, fNormal / 2}, row{110, 1, 1, fOne}, row{110, 2, 1, fTwo}, row{110, fNormal, fMax, 0}, row{110, fNeg | fOne, fMax, fNeg | 0x00200000}, row{110, 1, fMax, 0},
		row{99, 1, 1, 2}, row{99, dNormal - 1, 1, dNormal}, row{103, dNormal, dNormal + 1, dNeg | 1}, row{103, dNormal, 1, dNormal - 1},
		row{107, 1, dHalf, 0}, row{107, 3, dHalf, 2}, row{107, 5, dHalf, 2}, row{107, dNeg | 1, dHalf, dNeg}, row{107, 1, dHalf + 1, 1}, row{107, dNormal, dHalf, dNormal / 2}, row{107, dNormal + 3, dHalf, dNormal/2 + 2}, row{107, dNormal, dNormal, 0}, row{107, dNormal, dOne - 1, dNormal},
		row{111, 1, dTwo, 0}, row{111, 3, dTwo, 2}, row{111, dNeg | 5, dTwo, dNeg | 2}, row{111, 1, 1, dOne}, row{111, dNormal, dMax, 0}, row{111, dNeg | 1, dMax, dNeg})
}

func TestLeftOfParts(t *testing.T) {
	const fiveAndAHalf, threeF, threeD = 0x40b00000, 0x40400000, 0x4008000000000000
	twos(t,
		row{114, fiveAndAHalf, fTwo, 0x3fc00000}, row{114, fNeg | fiveAndAHalf, fTwo, fNeg | 0x3fc00000}, row{114, fiveAndAHalf, fNeg | fTwo, 0x3fc00000}, row{114, fNeg | fiveAndAHalf, fNeg | fTwo, fNeg | 0x3fc00000},
		row{114, threeF, threeF, 0}, row{114, fNeg | threeF, threeF, fNeg}, row{114, threeF, fNeg | threeF, 0}, row{114, fOne, threeF, fOne}, row{114, fNeg | fOne, threeF, fNeg | fOne}, row{114, 1, fMax, 1},
		row{114, fMax, 1, 0}, row{114, fNeg | fMax, 1, fNeg}, row{114, fMax, 3, 0}, row{114, fMax, threeF, 0}, row{114, 0x7f000000, threeF, fTwo}, row{114, fMax, fMax - 1, 0x73800000}, row{114, 7, 4, 3}, row{114, fNormal, 3, 2}, row{114, fNeg | fNormal + 1, fNormal, fNeg | 1},
		row{115, 0xc016000000000000, dTwo, 0xbff8000000000000}, row{115, 0x4016000000000000, dNeg | dTwo, 0x3ff8000000000000}, row{115, 0xc016000000000000, dNeg | dTwo, 0xbff8000000000000},
		row{115, threeD, threeD, 0}, row{115, dNeg | threeD, threeD, dNeg}, row{115, dOne, threeD, dOne}, row{115, dNeg | dOne, threeD, dNeg | dOne}, row{115, 1, dMax, 1},
		row{115, dMax, 1, 0}, row{115, dNeg | dMax, 1, dNeg}, row{115, 0x7fe0000000000000, threeD, dTwo}, row{115, dMax, dMax - 1, 0x7ca0000000000000}, row{115, 7, 4, 3}, row{115, dNormal, 3, 1}, row{115, dMax, dNormal - 1, 0x20000})
}

func TestComparedParts(t *testing.T) {
	for _, op := range []uint8{149, 150} {
		twos(t, row{op, fOne, fTwo, n(-1)}, row{op, fTwo, fOne, 1}, row{op, fOne, fOne, 0}, row{op, 0, fNeg, 0}, row{op, fNeg, 0, 0}, row{op, 0, 1, n(-1)}, row{op, fNeg | 1, fNeg, n(-1)}, row{op, fNeg | fOne, fNeg | fTwo, 1}, row{op, fNeg | fTwo, fOne, n(-1)},
			row{op, fInf, fMax, 1}, row{op, fNeg | fInf, fNeg | fMax, n(-1)}, row{op, fInf, fInf, 0}, row{op, fNeg | fInf, fNeg | fInf, 0}, row{op, fNeg | fInf, fInf, n(-1)})
	}
	for _, op := range []uint8{151, 152} {
		twos(t, row{op, dOne, dTwo, n(-1)}, row{op, dTwo, dOne, 1}, row{op, dOne, dOne, 0}, row{op, 0, dNeg, 0}, row{op, dNeg, 0, 0}, row{op, 0, 1, n(-1)}, row{op, dNeg | 1, dNeg, n(-1)}, row{op, dNeg | dOne, dNeg | dTwo, 1}, row{op, dOne, dOne + 1, n(-1)},
			row{op, dInf, dMax, 1}, row{op, dNeg | dInf, dNeg | dMax, n(-1)}, row{op, dInf, dInf, 0}, row{op, dNeg | dInf, dInf, n(-1)})
	}
}

func TestLessParts(t *testing.T) {
	ones(t,
		row{118, 0, 0, fNeg}, row{118, fNeg, 0, 0}, row{118, fOne, 0, fNeg | fOne}, row{118, fNeg | fOne, 0, fOne}, row{118, fInf, 0, fNeg | fInf}, row{118, fNeg | fInf, 0, fInf}, row{118, 1, 0, fNeg | 1}, row{118, fNeg | fMax, 0, fMax}, row{118, above, 0, fNeg},
		row{119, 0, 0, dNeg}, row{119, dNeg, 0, 0}, row{119, dOne, 0, dNeg | dOne}, row{119, dNeg | dInf, 0, dInf}, row{119, 1, 0, dNeg | 1}, row{119, dMax, 0, dNeg | dMax})
}

func TestWholeToParts(t *testing.T) {
	ones(t,
		row{134, 0, 0, 0}, row{134, n(-1), 0, fNeg | fOne}, row{134, 1<<24 + 1, 0, 0x4b800000}, row{134, 1<<24 + 3, 0, 0x4b800002}, row{134, n(-1<<24 - 1), 0, 0xcb800000}, row{134, 1<<25 + 3, 0, 0x4c000001}, row{134, highInt, 0, 0x4f000000}, row{134, lowInt, 0, 0xcf000000}, row{134, highInt - 64, 0, 0x4effffff}, row{134, highInt - 63, 0, 0x4f000000}, row{134, above | 1, 0, fOne},
		row{135, 0, 0, 0}, row{135, n(-1), 0, dNeg | dOne}, row{135, highInt, 0, 0x41dfffffffc00000}, row{135, lowInt, 0, 0xc1e0000000000000}, row{135, above | 1, 0, dOne},
		row{137, 0, 0, 0}, row{137, l(-1), 0, fNeg | fOne}, row{137, 1<<24 + 1, 0, 0x4b800000}, row{137, 1<<24 + 3, 0, 0x4b800002}, row{137, highLong, 0, 0x5f000000}, row{137, lowLong, 0, 0xdf000000},
		row{138, 0, 0, 0}, row{138, l(-1), 0, dNeg | dOne}, row{138, 1<<53 + 1, 0, 0x4340000000000000}, row{138, 1<<53 + 3, 0, 0x4340000000000002}, row{138, l(-1<<53 - 1), 0, 0xc340000000000000}, row{138, highLong, 0, 0x43e0000000000000}, row{138, lowLong, 0, 0xc3e0000000000000})
	// Rounded once: by way of a double these would lie halfway.
	ones(t, row{137, 1<<62 + 1<<38 + 1, 0, 0x5e800001}, row{137, l(-(1<<62 + 1<<38 + 1)), 0, 0xde800001}, row{137, 1<<62 + 3<<38 - 1, 0, 0x5e800001}, row{137, 1<<62 + 1<<38, 0, 0x5e800000})
}

func TestPartsToWhole(t *testing.T) {
	ones(t,
		row{139, 0, 0, 0}, row{139, fNeg, 0, 0}, row{139, fHalf, 0, 0}, row{139, fNeg | fHalf, 0, 0}, row{139, fNeg | fOne - 1, 0, 0}, row{139, fOne, 0, 1}, row{139, 0xbfffffff, 0, n(-1)}, row{139, 0x4effffff, 0, 0x7fffff80}, row{139, 0x4f000000, 0, highInt}, row{139, 0xcf000000, 0, lowInt}, row{139, 0xceffffff, 0, n(-0x7fffff80)}, row{139, 0xcf000001, 0, lowInt}, row{139, fInf, 0, highInt}, row{139, fNeg | fInf, 0, lowInt}, row{139, 1, 0, 0},
		row{140, 0, 0, 0}, row{140, fNeg | fHalf, 0, 0}, row{140, 0x4f000000, 0, 1 << 31}, row{140, 0x5effffff, 0, 0x7fffff8000000000}, row{140, 0x5f000000, 0, highLong}, row{140, 0xdf000000, 0, lowLong}, row{140, 0xdeffffff, 0, l(-0x7fffff8000000000)}, row{140, 0xdf000001, 0, lowLong}, row{140, fInf, 0, highLong}, row{140, fNeg | fInf, 0, lowLong}, row{140, 0xbfffffff, 0, l(-1)},
		row{142, dNeg, 0, 0}, row{142, dNeg | dHalf, 0, 0}, row{142, dNeg | dOne - 1, 0, 0}, row{142, 0x41dfffffffc00000, 0, highInt}, row{142, 0x41dfffffffbfffff, 0, highInt - 1}, row{142, 0x41dfffffffffffff, 0, highInt}, row{142, 0x41e0000000000000, 0, highInt}, row{142, 0xc1e0000000000000, 0, lowInt}, row{142, 0xc1dfffffffffffff, 0, lowInt + 1}, row{142, 0xc1e00000001fffff, 0, lowInt}, row{142, 0xc1e0000000200000, 0, lowInt}, row{142, dInf, 0, highInt}, row{142, dNeg | dInf, 0, lowInt}, row{142, dMax, 0, highInt},
		row{143, dNeg, 0, 0}, row{143, dNeg | dHalf, 0, 0}, row{143, 0x43dfffffffffffff, 0, 0x7ffffffffffffc00}, row{143, 0x43e0000000000000, 0, highLong}, row{143, 0xc3e0000000000000, 0, lowLong}, row{143, 0xc3dfffffffffffff, 0, l(-0x7ffffffffffffc00)}, row{143, 0xc3e0000000000001, 0, lowLong}, row{143, dInf, 0, highLong}, row{143, dNeg | dInf, 0, lowLong}, row{143, dNeg | dMax, 0, lowLong}, row{143, 0x41e0000000000000, 0, 1 << 31})
}

func TestPartsToParts(t *testing.T) {
	ones(t,
		row{141, 0, 0, 0}, row{141, fNeg, 0, dNeg}, row{141, fOne, 0, dOne}, row{141, fInf, 0, dInf}, row{141, fNeg | fInf, 0, dNeg | dInf}, row{141, 1, 0, 0x36a0000000000000}, row{141, fNeg | 3, 0, 0xb6b8000000000000}, row{141, fNormal - 1, 0, 0x380fffffc0000000}, row{141, fNormal, 0, 0x3810000000000000}, row{141, fMax, 0, 0x47efffffe0000000}, row{141, above | fOne, 0, dOne},
		row{144, 0, 0, 0}, row{144, dNeg, 0, fNeg}, row{144, dOne, 0, fOne}, row{144, dInf, 0, fInf}, row{144, dNeg | dInf, 0, fNeg | fInf}, row{144, dMax, 0, fInf}, row{144, dNeg | dMax, 0, fNeg | fInf},
		row{144, 0x47efffffe0000000, 0, fMax}, row{144, 0x47efffffefffffff, 0, fMax}, row{144, 0x47effffff0000000, 0, fInf}, row{144, 0xc7effffff0000000, 0, fNeg | fInf},
		row{144, 0x3ff0000010000000, 0, fOne}, row{144, 0x3ff0000010000001, 0, fOne + 1}, row{144, 0x3ff0000030000000, 0, fOne + 2}, row{144, 0x3ff000002fffffff, 0, fOne + 1},
		row{144, 0x3810000000000000, 0, fNormal}, row{144, 0x380fffffffffffff, 0, fNormal}, row{144, 0x380fffffc0000000, 0, fNormal - 1}, row{144, 0x380fffffe0000000, 0, fNormal}, row{144, 0x380fffffdfffffff, 0, fNormal - 1},
		row{144, 0x36a0000000000000, 0, 1}, row{144, 0x3690000000000000, 0, 0}, row{144, 0x3690000000000001, 0, 1}, row{144, 0xb690000000000000, 0, fNeg}, row{144, 0x36a8000000000000, 0, 2}, row{144, 0xb6a7ffffffffffff, 0, fNeg | 1}, row{144, 1, 0, 0}, row{144, dNeg | 1, 0, fNeg})
}
