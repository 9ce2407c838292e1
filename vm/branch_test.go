package vm

import (
	"fmt"
	"math"
	"testing"

	"jvmcore/api"
)

// jumpsOf: main prints 1 for each piece of code that jumps to its mark, else 0.
func jumpsOf(t *testing.T, stack, locals int, at []api.VType, first func(c *coder), pieces ...func(c *coder, mark string)) *built {
	return plain(t, stack+1, locals, func(c *coder) {
		first(c)
		for k, p := range pieces {
			yes, done := fmt.Sprint("yes", k), fmt.Sprint("done", k)
			p(c, yes)
			c.ops(3).jump(167, done).mark(yes, at).ops(4).mark(done, at, intT).print("I")
		}
	})
}

func none(*coder) {}

func TestBranches(t *testing.T) {
	// Of 153 to 158, and of 159 to 164: at below, at, above.
	for k, want := range []string{"0 1 0", "1 0 1", "1 0 0", "0 1 1", "0 0 1", "1 1 0"} {
		of0 := func(x int) func(c *coder, mark string) {
			return func(c *coder, mark string) { c.int(x).jump(byte(153+k), mark) }
		}
		prints(t, fmt.Sprint(153+k), want+" "+want, jumpsOf(t, 1, 0, nil, none, of0(-1), of0(0), of0(1), of0(math.MinInt32), of0(0), of0(math.MaxInt32)))
		of2 := func(a, b int) func(c *coder, mark string) {
			return func(c *coder, mark string) { c.int(a).int(b).jump(byte(159+k), mark) }
		}
		prints(t, fmt.Sprint(159+k), list(want, want, want), jumpsOf(t, 2, 0, nil, none, of2(4, 5), of2(5, 5), of2(6, 5),
			of2(math.MinInt32, -1), of2(math.MinInt32, math.MinInt32), of2(math.MinInt32+1, math.MinInt32),
			of2(math.MinInt32, math.MaxInt32), of2(math.MaxInt32, math.MaxInt32), of2(math.MaxInt32, math.MinInt32)))
	}
	locals := []api.VType{anyT, anyT}
	things := func(c *coder) { c.made(objectName).ops(75).made(objectName).ops(76) }
	for op, want := range map[byte]string{165: "1 0 0 0 1 1", 166: "0 1 1 1 0 0"} {
		pair := func(a, b byte) func(c *coder, mark string) {
			return func(c *coder, mark string) { c.ops(a, b).jump(op, mark) }
		}
		prints(t, fmt.Sprint(op), want, jumpsOf(t, 2, 2, locals, things, pair(42, 42), pair(42, 43), pair(1, 42), pair(42, 1), pair(1, 1), pair(43, 43)))
	}
	for op, want := range map[byte]string{198: "1 0", 199: "0 1"} {
		single := func(a byte) func(c *coder, mark string) {
			return func(c *coder, mark string) { c.ops(a).jump(op, mark) }
		}
		prints(t, fmt.Sprint(op), want, jumpsOf(t, 2, 2, locals, things, single(1), single(42)))
	}
	prints(t, "167 and 200", "1 1", jumpsOf(t, 2, 0, nil, none,
		func(c *coder, mark string) { c.ops(3).jump(154, "skip1").jump(167, mark).mark("skip1", nil) },
		func(c *coder, mark string) { c.ops(3).jump(154, "skip2").jump(200, mark).mark("skip2", nil) }))
}

// Loops go back: ten times, by each of 167 and 200.
func TestLoops(t *testing.T) {
	for _, op := range []byte{167, 200} {
		prints(t, fmt.Sprint(op), "45", plain(t, 2, 2, func(c *coder) {
			l := []api.VType{intT, intT}
			c.ops(3, 59, 3, 60).mark("again", l).ops(26, 16, 10).jump(162, "out").ops(27, 26, 96, 60, 132, 0, 1).jump(op, "again").mark("out", l).ops(27).print("I")
		}))
	}
}

func TestSwitches(t *testing.T) {
	keyed := func(key int, choose func(c *coder), marks ...string) *built {
		return plain(t, 2, 0, func(c *coder) {
			c.int(key)
			choose(c)
			for k, m := range marks {
				c.mark(m, nil).ops(3+byte(k)).jump(167, "end")
			}
			c.mark("end", nil, intT).print("I")
		})
	}
	marks := []string{"other", "one", "two", "three"}
	for _, c := range []struct {
		low  int
		want map[int]int
	}{
		{-1, map[int]int{-2: 0, -1: 1, 0: 2, 1: 3, 2: 0, math.MinInt32: 0, math.MaxInt32: 0}},
		{math.MaxInt32 - 2, map[int]int{math.MaxInt32: 3, math.MaxInt32 - 2: 1, math.MaxInt32 - 3: 0, math.MinInt32: 0, -1: 0}},
		{math.MinInt32, map[int]int{math.MinInt32: 1, math.MinInt32 + 2: 3, math.MinInt32 + 3: 0, math.MaxInt32: 0, 0: 0}},
	} {
		for key, want := range c.want {
			prints(t, fmt.Sprintf("table from %d on, %d", c.low, key), fmt.Sprint(want), keyed(key, func(x *coder) { x.table(c.low, marks...) }, marks...))
		}
	}
	prints(t, "a table of one", "1", keyed(5, func(c *coder) { c.table(5, "other", "one") }, "other", "one"))
	keys := []int{math.MinInt32, -1, math.MaxInt32}
	for key, want := range map[int]int{math.MinInt32: 1, -1: 2, math.MaxInt32: 3, 0: 0, math.MinInt32 + 1: 0, -2: 0, math.MaxInt32 - 1: 0} {
		prints(t, fmt.Sprintf("keys, %d", key), fmt.Sprint(want), keyed(key, func(c *coder) { c.keys(keys, marks...) }, marks...))
	}
	prints(t, "no keys", "0", keyed(5, func(c *coder) { c.keys(nil, "other") }, "other"))
}

// A key is an int, whatever bits a switch or comparison of another type would have.
func TestSigned(t *testing.T) {
	prints(t, "a byte as a key", "3", plain(t, 2, 0, func(c *coder) {
		c.ops(16, 255).keys([]int{-1, 255}, "other", "less", "great")
		c.mark("other", nil).ops(4).print("I").ops(177).mark("less", nil).ops(6).print("I").ops(177).mark("great", nil)
	}))
}
