package num

import (
	"testing"

	"jvmcore/api"
)

type row struct {
	op      uint8
	a, b, x uint64
}

// twos, ones: rows that must be answered so, without an error.
func twos(t *testing.T, rows ...row) {
	t.Helper()
	for _, r := range rows {
		if x, errno := Two(r.op, r.a, r.b); x != r.x || errno != api.OK {
			t.Errorf("Two(%d, %x, %x) = %x, %d, want %x", r.op, r.a, r.b, x, errno, r.x)
		}
	}
}

func ones(t *testing.T, rows ...row) {
	t.Helper()
	for _, r := range rows {
		if x, errno := One(r.op, r.a); x != r.x || errno != api.OK {
			t.Errorf("One(%d, %x) = %x, %d, want %x", r.op, r.a, x, errno, r.x)
		}
	}
}

func isTwo(op int) bool {
	return 96 <= op && op <= 115 || 120 <= op && op <= 131 || 148 <= op && op <= 152
}

func isOne(op int) bool { return 116 <= op && op <= 119 || 133 <= op && op <= 147 }

// bits: what an instruction may be given, of any kind.
func bits() []uint64 {
	return []uint64{0, 1, 2, 3, 31, 32, 63, 64, 0x7f, 0x80, 0xff, 0x7fff, 0x8000, 0xffff,
		0x7fffffff, 0x80000000, 0xffffffff, 1 << 32, 1<<32 | 1, 0x7f800001, 0xffc00001,
		1<<63 - 1, 1 << 63, 1<<64 - 1, 0x7ff0000000000001, 0xfff8000000000001, 0x0123456789abcdef}
}

func TestEveryOpOfTwo(t *testing.T) {
	for op := 0; op < 256; op++ {
		for _, a := range bits() {
			for _, b := range bits() {
				want := api.OK
				whole := op%4 < 2
				switch {
				case !isTwo(op):
					want = api.ErrOp
				case 108 <= op && op <= 115 && whole && (b == 0 || op%4 == 0 && uint32(b) == 0):
					want = api.ErrDivide
				}
				x, errno := Two(uint8(op), a, b)
				if errno != want || errno != api.OK && x != 0 {
					t.Errorf("Two(%d, %x, %x) = %x, %d, want %d", op, a, b, x, errno, want)
				}
			}
		}
	}
}

func TestEveryOpOfOne(t *testing.T) {
	for op := 0; op < 256; op++ {
		for _, a := range bits() {
			want := api.OK
			if !isOne(op) {
				want = api.ErrOp
			}
			if x, errno := One(uint8(op), a); errno != want || errno != api.OK && x != 0 {
				t.Errorf("One(%d, %x) = %x, %d, want %d", op, a, x, errno, want)
			}
		}
	}
}

// Bits above the lowest 32 of an int or float change nothing, and are 0 in what is given.
func TestBitsAboveAreOfNoMatter(t *testing.T) {
	const above = 0xdeadbeef00000000
	for op := 0; op < 256; op++ {
		for _, a := range bits() {
			a &= 0xffffffff
			if takesShort(op) {
				x, errno := One(uint8(op), a)
				y, other := One(uint8(op), a|above)
				if x != y || errno != other {
					t.Errorf("One(%d): %x of %x, %x with bits above", op, x, a, y)
				}
				if givesShort(op) && x>>32 != 0 {
					t.Errorf("One(%d, %x) = %x", op, a, x)
				}
			}
			for _, b := range bits() {
				aboveOfTwo(t, op, a, b&0xffffffff, above)
			}
		}
	}
}

func aboveOfTwo(t *testing.T, op int, a, b, above uint64) {
	t.Helper()
	if !takesTwoShort(op) {
		return
	}
	x, errno := Two(uint8(op), a, b)
	for _, pair := range [][2]uint64{{a | above, b}, {a, b | above}, {a | above, b | above}} {
		if y, other := Two(uint8(op), pair[0], pair[1]); y != x || other != errno || y>>32 != 0 {
			t.Errorf("Two(%d, %x, %x) = %x, %d, want %x, %d", op, pair[0], pair[1], y, other, x, errno)
		}
	}
}

// takesTwoShort: 126, 128, 130 are not among them: all their bits count.
func takesTwoShort(op int) bool {
	switch op {
	case 120, 122, 124, 149, 150:
		return true
	}
	return 96 <= op && op <= 115 && op%4 != 1 && op%4 != 3
}

func takesShort(op int) bool {
	switch op {
	case 116, 118, 133, 134, 135, 136, 139, 140, 141, 145, 146, 147:
		return true
	}
	return false
}

func givesShort(op int) bool {
	switch op {
	case 133, 135, 138, 140, 141, 143:
		return false
	}
	return takesShort(op)
}

func TestExamples(t *testing.T) {
	twos(t,
		row{108, 7, 0xfffffffe, 0xfffffffd},
		row{115, 0x4016000000000000, 0x4000000000000000, 0x3ff8000000000000})
	ones(t, row{139, 0x4f000000, 0, 0x7fffffff})
}
