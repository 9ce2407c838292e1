package vm

import (
	"fmt"
	"math/rand"
	"strings"
	"testing"

	"jvmcore/api"
)

// The examples of the whole that the document tells, of what is thrown.
func TestExamples(t *testing.T) {
	v := started(t, usual, plain(t, 2, 0, func(c *coder) { c.ops(4, 3, 108, 87) }))
	if why, n := dies(t, v); why != "java/lang/ArithmeticException" || n != 4 {
		t.Errorf("example 2: died of %s in %d steps", why, n)
	}
	prints(t, "example 2, taken", "9", guarded(t, 2, 0, "java/lang/ArithmeticException", func(c *coder) { c.ops(4, 3, 108, 87) }))
	wrong := newBuilt(t, "W", objectName, open).method(api.Static, "m", "()V", 1, 0, func(c *coder) { c.ops(87, 177) })
	v = started(t, usual, plain(t, 2, 0, func(c *coder) { c.static("W", "m", "()V") }), wrong)
	if why, n := dies(t, v); why != "java/lang/VerifyError" || n != 2 {
		t.Errorf("example 4: died of %s in %d steps", why, n)
	}
	v = started(t, Options{120, 20, 5}, plain(t, 2, 0, func(c *coder) { c.int(200).ops(188, 10, 87) }))
	if why, n := dies(t, v); why != "java/lang/OutOfMemoryError" || n != 3 {
		t.Errorf("example 8: died of %s in %d steps", why, n)
	}
	v = started(t, Options{120, 20, 5}, plain(t, 1, 0, func(c *coder) { c.static("A", "f", "()V") }).method(api.Static, "f", "()V", 1, 0, func(c *coder) { c.ops(4).print("I").static("A", "f", "()V").ops(177) }))
	if why, _ := dies(t, v); why != "java/lang/StackOverflowError" || strings.Join(v.Out(), "") != "1111" {
		t.Errorf("example 9: died of %s, printed %q", why, v.Out())
	}
}

// expression: written to the code, with so many operators within each other at the most; its value, false if it is none since something is divided by 0.
func expression(r *rand.Rand, c *coder, depth int) (int32, bool) {
	if depth == 0 || r.Intn(8) == 0 {
		x := []int32{0, 1, -1, 2, 7, -13, 1000, 1<<31 - 1, -1 << 31, int32(r.Uint32())}[r.Intn(10)]
		c.int(int(x))
		return x, true
	}
	a, has := expression(r, c, depth-1)
	if r.Intn(6) == 0 {
		c.ops(116)
		return -a, has
	}
	b, hasToo := expression(r, c, depth-1)
	has = has && hasToo
	op := []byte{96, 100, 104, 108, 108, 112, 112, 120, 122, 124, 126, 128, 130}[r.Intn(13)]
	c.ops(op)
	switch op {
	case 96:
		a += b
	case 100:
		a -= b
	case 104:
		a *= b
	case 108, 112:
		switch {
		case b == 0:
			return 0, false
		case op == 108:
			a /= b
		default:
			a %= b
		}
	case 120:
		a <<= b & 31
	case 122:
		a >>= b & 31
	case 124:
		a = int32(uint32(a) >> (b & 31))
	case 126:
		a &= b
	case 128:
		a |= b
	default:
		a ^= b
	}
	return a, has
}

// An expression that is compiled runs to its value, or to what is thrown where something is divided by 0.
func TestExpressions(t *testing.T) {
	values := 0
	for seed := range int64(300) {
		var want string
		a := newBuilt(t, "A", objectName, open).main(12, 0, func(c *coder) {
			c.here("a")
			x, has := expression(rand.New(rand.NewSource(seed)), c, 5)
			if want = fmt.Sprint(x); has {
				values++
			} else {
				want = "by 0"
			}
			c.print("I").here("b").ops(177).mark("taken", nil, obj("java/lang/ArithmeticException")).ops(87).str("by 0").printText().ops(177).guard("a", "b", "taken", "java/lang/ArithmeticException")
		})
		if got := strings.TrimPrefix(ends(t, started(t, usual, a)), "'"); got != want {
			t.Errorf("seed %d: %s, want %s", seed, got, want)
		}
	}
	if values < 50 || values > 250 {
		t.Errorf("%d of 300 had values", values)
	}
}
