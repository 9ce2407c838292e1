package code

import (
	"math"
	"testing"

	"jvmcore/api"
)

// encodeFails: the error of Encode, the number of the instruction, and nothing else.
func encodeFails(t *testing.T, e api.Errno, number int, l ...api.Ins) {
	t.Helper()
	if s, f, k := Encode(l); s != "" || f != e || k != number {
		t.Errorf("Encode(%s) = %.60x, %d, %d, want %d, %d", brief(l), s, f, k, e, number)
	}
}

// bothFail: an instruction, as the first and as the second.
func bothFail(t *testing.T, e api.Errno, i api.Ins) {
	t.Helper()
	encodeFails(t, e, 0, i)
	encodeFails(t, e, 1, api.Ins{}, moved(i, 1))
}

func TestEncodeOfNoneAndOfTooMany(t *testing.T) {
	encodeFails(t, api.ErrLength, 0)
	l := listOfNops(65536)
	encodeFails(t, api.ErrLength, 65535, l...)
	encodeFails(t, api.ErrLength, 65535, append(l, api.Ins{At: 7, Op: 255})...)
	encodeFails(t, api.ErrLength, 65534, append(l[:65534:65534], api.Ins{At: 65534, Op: 17})...)
	if s, e, _ := Encode(append(l[:65534:65534], api.Ins{At: 65534})); len(s) != 65535 || e != api.OK {
		t.Errorf("Encode of 65535 bytes = %d, %d", len(s), e)
	}
	// What else is wrong with the one that is too long comes first.
	encodeFails(t, api.ErrTarget, 65534, append(l[:65534:65534], api.Ins{At: 65533, Op: 17})...)
	encodeFails(t, api.ErrOp, 65535, append(l[:65535:65535], api.Ins{At: 65535, Op: 168})...)
	encodeFails(t, api.ErrOperand, 65534, append(l[:65534:65534], api.Ins{At: 65534, Op: 17, A: 32768})...)
	// A target that is lost comes last.
	l[0] = api.Ins{Op: 167, Targets: []int{1}}
	encodeFails(t, api.ErrLength, 65533, append(l[:1:1], listOfNops(65536)[3:]...)...)
	encodeFails(t, api.ErrTarget, 0, append(l[:1:1], listOfNops(65535)[3:]...)...)
	great := api.Ins{Op: 170, Targets: make([]int, 65520/4+1)}
	encodeFails(t, api.ErrLength, 0, great)
	great.Targets[len(great.Targets)-1] = 1 << 31
	encodeFails(t, api.ErrOperand, 0, great)
}

func TestEncodeOfWrongPlaces(t *testing.T) {
	for _, at := range []int{1, -1, math.MaxInt, math.MinInt, 65536} {
		encodeFails(t, api.ErrTarget, 0, api.Ins{At: at})
		encodeFails(t, api.ErrTarget, 0, api.Ins{At: at, Op: 168, A: 7})
	}
	for _, c := range samples() {
		for _, off := range []int{-1, 1, -len(c.s)} {
			encodeFails(t, api.ErrTarget, 1, c.i, api.Ins{At: len(c.s) + off})
		}
	}
	encodeFails(t, api.ErrTarget, 1, api.Ins{Op: 171, Targets: []int{0}}, api.Ins{At: 9})
	encodeFails(t, api.ErrTarget, 2, api.Ins{}, api.Ins{At: 1, Op: 171, Targets: []int{0}}, api.Ins{At: 10})
}

func TestEncodeOfNoInstruction(t *testing.T) {
	for op := range 256 {
		if isNone(op) || op == 196 {
			bothFail(t, api.ErrOp, api.Ins{Op: uint8(op)})
			bothFail(t, api.ErrOp, api.Ins{Op: uint8(op), A: -1, Targets: []int{-1}})
		}
		if op != 132 && !(op >= 21 && op <= 25) && !(op >= 54 && op <= 58) {
			bothFail(t, api.ErrOp, api.Ins{Op: uint8(op), Wide: true})
			bothFail(t, api.ErrOp, api.Ins{Op: uint8(op), Wide: true, B: 1, Targets: []int{0, 0}})
		}
	}
}

// edge: an instruction, and from where to where A and B may go.
type edge struct {
	i          api.Ins
	aLow, aTop int
	bLow, bTop int
}

// anyNumber: of a B that is not looked at.
var anyNumber = [2]int{math.MinInt, math.MaxInt}

func edges() []edge {
	l := []edge{
		{api.Ins{Op: 16}, -128, 127, anyNumber[0], anyNumber[1]},
		{api.Ins{Op: 17}, -32768, 32767, anyNumber[0], anyNumber[1]},
		{api.Ins{Op: 18}, 0, 255, anyNumber[0], anyNumber[1]},
		{api.Ins{Op: 132}, 0, 255, -128, 127},
		{api.Ins{Op: 132, Wide: true}, 0, 65535, -32768, 32767},
		{api.Ins{Op: 185, B: 1}, 0, 65535, 1, 255},
		{api.Ins{Op: 188, A: 4}, 4, 11, anyNumber[0], anyNumber[1]},
		{api.Ins{Op: 197, B: 1}, 0, 65535, 1, 255},
		{api.Ins{Op: 0}, math.MinInt, math.MaxInt, anyNumber[0], anyNumber[1]},
		{api.Ins{Op: 177}, math.MinInt, math.MaxInt, anyNumber[0], anyNumber[1]},
		{api.Ins{Op: 167, Targets: []int{0}}, math.MinInt, math.MaxInt, anyNumber[0], anyNumber[1]},
		{api.Ins{Op: 200, Targets: []int{0}}, math.MinInt, math.MaxInt, anyNumber[0], anyNumber[1]},
		{api.Ins{Op: 170, Targets: []int{0, 0}}, math.MinInt, math.MaxInt, anyNumber[0], anyNumber[1]},
		{api.Ins{Op: 171, Targets: []int{0}}, math.MinInt, math.MaxInt, anyNumber[0], anyNumber[1]},
	}
	for _, op := range []uint8{19, 20, 178, 179, 180, 181, 182, 183, 184, 187, 189, 192, 193} {
		l = append(l, edge{api.Ins{Op: op}, 0, 65535, anyNumber[0], anyNumber[1]})
	}
	for _, op := range []uint8{21, 22, 23, 24, 25, 54, 55, 56, 57, 58} {
		l = append(l, edge{api.Ins{Op: op}, 0, 255, anyNumber[0], anyNumber[1]}, edge{api.Ins{Op: op, Wide: true}, 0, 65535, anyNumber[0], anyNumber[1]})
	}
	return l
}

// around: numbers at and beyond two edges, and those that would be the same in fewer bytes.
func around(low, top int) []int {
	return []int{low, top, low - 1, top + 1, low - 256, top + 256, low + 65536, top - 65536, low - 1<<32, top + 1<<32, math.MinInt, math.MaxInt}
}

func TestEncodeAtTheEdges(t *testing.T) {
	for _, c := range edges() {
		look := func(i api.Ins, right bool) {
			t.Helper()
			if !right {
				bothFail(t, api.ErrOperand, i)
				return
			}
			if s, e, k := Encode([]api.Ins{i}); len(s) == 0 || e != api.OK || k != 0 {
				t.Errorf("Encode(%v) = %x, %d, %d", i, s, e, k)
			}
		}
		for _, a := range around(c.aLow, c.aTop) {
			i := c.i
			i.A = a
			look(i, c.aLow <= a && a <= c.aTop)
		}
		for _, b := range around(c.bLow, c.bTop) {
			i := c.i
			i.B = b
			look(i, c.bLow <= b && b <= c.bTop)
		}
	}
}

// TestEncodeLetsBe: what an instruction has and does not need.
func TestEncodeLetsBe(t *testing.T) {
	want := "\x00\x15\x07\xa7\xff\xfd\x00\xaa" + words(0, 3, 3, -7)
	s, e, k := Encode([]api.Ins{
		{A: 5, B: -7, Low: 1 << 40, Keys: []int{2, 1}, Targets: []int{}},
		{At: 1, Op: 21, A: 7, B: 1 << 40, Low: -1, Keys: []int{1}},
		{At: 3, Op: 167, A: -1, B: 1 << 40, Low: 1 << 40, Keys: []int{3, 3}, Targets: []int{0}},
		{At: 6, A: 1},
		{At: 7, Op: 170, A: 1 << 40, B: -1, Low: 3, Keys: []int{9, 8, 1 << 40}, Targets: []int{7, 0}},
	})
	if s != want || e != api.OK || k != 0 {
		t.Errorf("Encode = %x, %d, %d, want %x", s, e, k, want)
	}
	want = "\xab\x00\x00\x00" + words(0, 1, 3, 0)
	s, e, k = Encode([]api.Ins{{Op: 171, A: 1 << 40, B: -1, Low: 1 << 40, Keys: []int{3}, Targets: []int{0, 0}}})
	if s != want || e != api.OK || k != 0 {
		t.Errorf("Encode = %x, %d, %d, want %x", s, e, k, want)
	}
}

func TestEncodeOfTargets(t *testing.T) {
	for _, c := range samples() {
		i := c.i
		i.Targets = append([]int{0}, i.Targets...)
		bothFail(t, api.ErrOperand, i)
		if len(c.i.Targets) > 0 {
			i.Targets = nil
			bothFail(t, api.ErrOperand, i)
		}
	}
	beyond := []int{1 << 31, -1<<31 - 1, 1 << 32, math.MaxInt, math.MinInt}
	for _, to := range append(beyond, 32768, -32769, 65536, -65536) {
		bothFail(t, api.ErrOperand, api.Ins{Op: 153, Targets: []int{to}})
		bothFail(t, api.ErrOperand, api.Ins{Op: 199, Targets: []int{to}})
	}
	for _, to := range beyond {
		bothFail(t, api.ErrOperand, api.Ins{Op: 200, Targets: []int{to}})
		for k := range 3 {
			l := []int{0, 0, 0}
			l[k] = to
			bothFail(t, api.ErrOperand, api.Ins{Op: 170, Targets: l})
			bothFail(t, api.ErrOperand, api.Ins{Op: 171, Keys: []int{1, 2}, Targets: l})
		}
	}
	// By the place of the instruction, not by the target alone.
	far := listOfNops(32770)
	far[32769] = api.Ins{At: 32769, Op: 167, Targets: []int{0}}
	encodeFails(t, api.ErrOperand, 32769, far...)
	far[32769].Targets = []int{1}
	if s, e, _ := Encode(far); len(s) != 32772 || s[32770:] != "\x80\x00" || e != api.OK {
		t.Errorf("Encode of a far branch = %d, %d", len(s), e)
	}
}

func TestEncodeOfSwitches(t *testing.T) {
	for _, i := range []api.Ins{
		{Op: 170}, {Op: 170, Targets: []int{0}}, {Op: 170, Keys: []int{1}, Targets: []int{0}},
		{Op: 170, Low: 1 << 31, Targets: []int{0, 0}}, {Op: 170, Low: -1<<31 - 1, Targets: []int{0, 0}}, {Op: 170, Low: 1<<31 - 1, Targets: []int{0, 0, 0}},
		{Op: 170, Low: math.MaxInt, Targets: []int{0, 0, 0}}, {Op: 170, Low: math.MinInt, Targets: []int{0, 0}}, {Op: 170, Low: 1 << 32, Targets: []int{0, 0}},
		{Op: 171}, {Op: 171, Keys: []int{1}}, {Op: 171, Keys: []int{1}, Targets: []int{0}}, {Op: 171, Targets: []int{0, 0}}, {Op: 171, Keys: []int{1}, Targets: []int{0, 0, 0}},
		{Op: 171, Keys: []int{1, 1}, Targets: []int{0, 0, 0}}, {Op: 171, Keys: []int{2, 1}, Targets: []int{0, 0, 0}}, {Op: 171, Keys: []int{0, 2, 1}, Targets: []int{0, 0, 0, 0}},
		{Op: 171, Keys: []int{1 << 31}, Targets: []int{0, 0}}, {Op: 171, Keys: []int{-1<<31 - 1}, Targets: []int{0, 0}}, {Op: 171, Keys: []int{0, 1 << 32}, Targets: []int{0, 0, 0}}, {Op: 171, Keys: []int{math.MinInt}, Targets: []int{0, 0}},
	} {
		bothFail(t, api.ErrOperand, i)
	}
}

func TestEncodeOfLostTargets(t *testing.T) {
	for _, to := range []int{-1, 1, 2, 4, 6, 7, 32767, -32768} {
		encodeFails(t, api.ErrTarget, 0, api.Ins{Op: 167, Targets: []int{to}}, api.Ins{At: 3, Op: 16}, api.Ins{At: 5})
		if to >= 0 {
			encodeFails(t, api.ErrTarget, 1, api.Ins{}, api.Ins{At: 1, Op: 167, Targets: []int{to + 1}}, api.Ins{At: 4, Op: 16}, api.Ins{At: 6})
		}
	}
	for k := range 3 {
		l := []int{0, 0, 0}
		l[k] = 1
		encodeFails(t, api.ErrTarget, 0, api.Ins{Op: 170, Targets: l})
		encodeFails(t, api.ErrTarget, 0, api.Ins{Op: 171, Keys: []int{1, 2}, Targets: l})
	}
	lost := api.Ins{Op: 167, Targets: []int{1}}
	encodeFails(t, api.ErrTarget, 0, lost, moved(lost, 3))
	encodeFails(t, api.ErrOperand, 1, lost, api.Ins{At: 3, Op: 188})
	encodeFails(t, api.ErrOp, 1, lost, api.Ins{At: 3, Op: 186})
	encodeFails(t, api.ErrTarget, 1, lost, api.Ins{At: 4})
}
