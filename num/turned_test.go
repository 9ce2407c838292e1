package num

import (
	"math/big"
	"math/rand"
	"testing"

	"jvmcore/api"
)

// A plain model of whole numbers: of any length, and then their lowest bits.
func read(width uint, bits uint64) *big.Int {
	x := new(big.Int).SetUint64(bits << (64 - width) >> (64 - width))
	if x.Bit(int(width)-1) == 1 {
		x.Sub(x, shifted(1, int(width)))
	}
	return x
}

func lowest(width uint, x *big.Int) uint64 {
	all := shifted(1, int(width))
	return new(big.Int).Mod(x, all).Uint64()
}

// wholly: what 96 to 125 of whole numbers give.
func wholly(op uint8, a, b uint64) (uint64, api.Errno) {
	width := uint(32)
	if op%2 == 1 {
		width = 64
	}
	x, y, out := read(width, a), read(width, b), new(big.Int)
	by := uint(lowest(width, y)) & (width - 1)
	if op >= 108 && op <= 113 && y.Sign() == 0 {
		return 0, api.ErrDivide
	}
	switch op {
	case 96, 97:
		out.Add(x, y)
	case 100, 101:
		out.Sub(x, y)
	case 104, 105:
		out.Mul(x, y)
	case 108, 109:
		out.Quo(x, y)
	case 112, 113:
		out.Rem(x, y)
	case 120, 121:
		out.Lsh(x, by)
	case 122, 123:
		out.Div(x, shifted(1, int(by))) // downwards: big.Int's Div leaves what is not negative
	case 124, 125:
		out.Div(new(big.Int).SetUint64(lowest(width, x)), shifted(1, int(by)))
	}
	return lowest(width, out), api.OK
}

func opsOfWhole() []uint8 {
	return []uint8{96, 97, 100, 101, 104, 105, 108, 109, 112, 113, 120, 121, 122, 123, 124, 125}
}

func holdWhole(t *testing.T, a, b uint64) {
	t.Helper()
	for _, op := range opsOfWhole() {
		want, wrong := wholly(op, a, b)
		if x, errno := Two(op, a, b); x != want || errno != wrong {
			t.Fatalf("Two(%d, %x, %x) = %x, %d, want %x, %d", op, a, b, x, errno, want, wrong)
		}
	}
	want := n(int32(read(64, a).Cmp(read(64, b))))
	if x, errno := Two(148, a, b); x != want || errno != api.OK {
		t.Fatalf("Two(148, %x, %x) = %x, %d, want %x", a, b, x, errno, want)
	}
}

func TestRandomWhole(t *testing.T) {
	r := rand.New(rand.NewSource(88))
	for range 20000 {
		a, b := r.Uint64()>>r.Intn(64), r.Uint64()>>r.Intn(64)
		switch r.Intn(4) {
		case 0:
			a = -a
		case 1:
			b = -b
		case 2:
			b = a + uint64(r.Intn(3)) - 1
		}
		holdWhole(t, a, b)
	}
	for _, a := range bits() {
		for _, b := range bits() {
			holdWhole(t, a, b)
		}
	}
}

// ofBig: a whole number as one of the model's with parts.
func ofBig(x *big.Int) value {
	return value{negative: x.Sign() < 0, size: fraction{new(big.Int).Abs(x), big.NewInt(1)}}
}

// towards0: the whole number of the width that v is turned into.
func towards0(width uint, v value) uint64 {
	end := shifted(1, int(width)-1)
	switch {
	case v.none:
		return 0
	case v.endless && v.negative:
		return lowest(width, end)
	case v.endless:
		return lowest(width, end.Sub(end, big.NewInt(1)))
	}
	x := new(big.Int).Quo(v.size.top, v.size.bottom)
	if v.negative {
		return lowest(width, x.Neg(least(x, end)))
	}
	return lowest(width, least(x, end.Sub(end, big.NewInt(1))))
}

func least(a, b *big.Int) *big.Int {
	if a.Cmp(b) < 0 {
		return a
	}
	return b
}

// turnedInto: what 116 to 147 give.
func turnedInto(op uint8, a uint64) uint64 {
	switch op {
	case 116:
		return lowest(32, new(big.Int).Neg(read(32, a)))
	case 117:
		return lowest(64, new(big.Int).Neg(read(64, a)))
	case 118:
		return floats.write(turned(floats.read(a)))
	case 119:
		return doubles.write(turned(doubles.read(a)))
	case 133:
		return lowest(64, read(32, a))
	case 134:
		return floats.write(ofBig(read(32, a)))
	case 135:
		return doubles.write(ofBig(read(32, a)))
	case 136:
		return lowest(32, read(64, a))
	case 137:
		return floats.write(ofBig(read(64, a)))
	case 138:
		return doubles.write(ofBig(read(64, a)))
	case 139:
		return towards0(32, floats.read(a))
	case 140:
		return towards0(64, floats.read(a))
	case 141:
		return doubles.write(floats.read(a))
	case 142:
		return towards0(32, doubles.read(a))
	case 143:
		return towards0(64, doubles.read(a))
	case 144:
		return floats.write(doubles.read(a))
	case 145:
		return lowest(32, read(8, a))
	case 146:
		return lowest(16, read(32, a))
	}
	return lowest(32, read(16, a))
}

func holdTurned(t *testing.T, a uint64) {
	t.Helper()
	for op := uint8(116); op <= 147; op++ {
		if !isOne(int(op)) {
			continue
		}
		if x, errno := One(op, a); x != turnedInto(op, a) || errno != api.OK {
			t.Fatalf("One(%d, %x) = %x, %d, want %x", op, a, x, errno, turnedInto(op, a))
		}
	}
}

// halfway: a double between two floats, or beside such a one.
func halfway(r *rand.Rand) uint64 {
	x := uint64(874+r.Intn(300))<<52 | r.Uint64()>>12
	keep := 29 + r.Intn(24)
	x = x>>keep<<keep | 1<<(keep-1)
	return x + uint64(r.Intn(3)) - 1 | r.Uint64()&(1<<63)
}

// halfwayWhole: a whole number between two floats or doubles, or beside such a one.
func halfwayWhole(r *rand.Rand) uint64 {
	x := r.Uint64() >> r.Intn(42)
	length := 64 - lead(x)
	drop := length - []int{24, 53}[r.Intn(2)]
	if drop > 0 {
		x = x>>drop<<drop | 1<<(drop-1)
	}
	x += uint64(r.Intn(3)) - 1
	if r.Intn(2) == 0 {
		return -x
	}
	return x
}

func lead(x uint64) int {
	for k := range 64 {
		if x>>(63-k) != 0 {
			return k
		}
	}
	return 64
}

func TestRandomTurned(t *testing.T) {
	for _, a := range append(append(bits(), floats.edges()...), doubles.edges()...) {
		holdTurned(t, a)
	}
	r := rand.New(rand.NewSource(888))
	for range 20000 {
		holdTurned(t, r.Uint64())
		holdTurned(t, r.Uint64()>>r.Intn(64))
		holdTurned(t, halfway(r))
		holdTurned(t, halfwayWhole(r))
		holdTurned(t, near(r, floats, uint64(150+r.Intn(50))<<23))
		holdTurned(t, near(r, doubles, uint64(1040+r.Intn(60))<<52))
	}
}
