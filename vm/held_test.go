package vm

import (
	"fmt"
	"testing"

	"jvmcore/api"
)

// link: a class of things that hang on each other: 2 words, and 2 fields.
func linkClass(t *testing.T, name string) *built {
	return newBuilt(t, name, objectName, open).maker().field(0, "next", "L"+name+";").field(0, "n", "J").field(api.Static, "s", "L"+name+";")
}

// livesAre: what Live tells after each step from behind the first on, which is of the class; each number is told once till it changes.
func livesAre(t *testing.T, what, want string, l ...*built) {
	t.Helper()
	v := started(t, usual, l...)
	w := started(t, usual, l...)
	var got []string
	last := -1
	for {
		n := v.Live()
		if n != last {
			got = append(got, fmt.Sprint(n))
		}
		last = n
		if v.Run(0, 1) == 0 {
			break
		}
		if w.Run(0, 1) != 1 || w.Collect(true) != v.Live() || w.Collect(false) != 0 {
			t.Errorf("%s: Collect tells other than Live", what)
		}
	}
	if s := list(got...); s != want {
		t.Errorf("%s: words: %s, want %s", what, s, want)
	}
	ends(t, v)
	ends(t, w)
}

// What goes when its last holder goes: a stack, a local, a field, a static field, an element, a frame.
func TestHolders(t *testing.T) {
	for _, c := range []struct {
		what, want string
		locals     int
		write      func(c *coder)
	}{
		{"a stack", "2 6 2", 0, func(c *coder) { c.made("A").ops(0, 87, 0) }},
		{"a stack, twice", "2 6 2", 0, func(c *coder) { c.made("A").ops(89, 87, 0, 87, 0) }},
		{"a stack, by two slots", "2 6 10 2", 0, func(c *coder) { c.made("A").made("A").ops(88, 0) }},
		{"a stack, turned", "2 6 10 6 2", 0, func(c *coder) { c.made("A").made("A").ops(95, 87, 0, 87, 0) }},
		{"a comparison", "2 6 10 2", 0, func(c *coder) { c.made("A").made("A").jump(165, "on").mark("on", nil).ops(0) }},
		{"what asks for a class", "2 6 2", 0, func(c *coder) { c.made("A").with(193, c.class("A")).ops(87) }},
		{"a local", "2 6 2", 1, func(c *coder) { c.made("A").ops(75, 0, 1, 75, 0) }},
		{"a local, by a number", "2 6 2", 1, func(c *coder) { c.made("A").ops(75, 0, 3, 59, 0) }},
		{"a local, by a long at it", "2 6 2", 2, func(c *coder) { c.made("A").ops(75, 0, 9, 63, 0) }},
		{"a local, by a long ahead of it", "2 6 2", 3, func(c *coder) { c.made("A").ops(77, 0, 9, 64, 0) }},
		{"a local, by a double ahead of it", "2 6 2", 3, func(c *coder) { c.made("A").ops(76, 0, 14, 71, 0) }},
		{"a local behind a long", "2 6 2", 3, func(c *coder) { c.made("A").ops(77, 9, 63, 0) }},
		{"a local, of no type any more", "2 6 2", 1, func(c *coder) { c.made("A").ops(75).jump(167, "on").mark("on", nil).ops(0, 0) }},
		{"a field", "2 6 10 6 2", 1, func(c *coder) {
			c.made("A").ops(75, 42).made("A").member(181, "A", "next", "LA;").ops(42, 1).member(181, "A", "next", "LA;").ops(0)
		}},
		{"a field, by another thing", "2 6 10 14 10 2", 1, func(c *coder) {
			c.made("A").ops(75, 42).made("A").member(181, "A", "next", "LA;").ops(42).made("A").member(181, "A", "next", "LA;").ops(0)
		}},
		{"a static field", "2 6 2", 0, func(c *coder) {
			c.made("A").member(179, "A", "s", "LA;").ops(0, 1).member(179, "A", "s", "LA;").ops(0)
		}},
		{"an element", "2 5 9 5 2", 1, func(c *coder) {
			c.ops(4).with(189, c.class("A")).ops(75, 42, 3).made("A").ops(83, 0, 42, 3, 1, 83)
		}},
		{"the thing itself, as an element", "2 5 2", 1, func(c *coder) {
			c.ops(4).with(189, c.class(objectName)).ops(75, 42, 3, 42, 83, 0, 1, 75, 0)
		}},
		{"a frame", "2 6 2", 0, func(c *coder) { c.made("A").static("A", "drop", "(LA;)V").ops(0) }},
		{"a frame that gives it back", "2 6 2", 0, func(c *coder) { c.made("A").static("A", "same", "(LA;)LA;").ops(0, 87, 0) }},
		{"a frame in which it was made", "2 6 2", 0, func(c *coder) { c.static("A", "make", "()V").ops(0) }},
		{"one of many values that a frame takes", "2 6 10 6 2", 0, func(c *coder) { c.made("A").ops(9).made("A").static("A", "second", "(LA;JLA;)LA;").ops(0, 87, 0) }},
		{"a thing whose length is asked", "2 6 2", 0, func(c *coder) { c.ops(5, 188, 11, 190, 87) }},
		{"a field that is got", "2 6 10 6 2", 0, func(c *coder) {
			c.made("A").ops(89).made("A").member(181, "A", "next", "LA;").member(180, "A", "next", "LA;").ops(0, 87, 0)
		}},
	} {
		a := linkClass(t, "A").method(api.Static, "drop", "(LA;)V", 0, 1, func(c *coder) { c.ops(0, 0, 177) })
		a.method(api.Static, "same", "(LA;)LA;", 1, 1, func(c *coder) { c.ops(42, 0, 176) })
		a.method(api.Static, "make", "()V", 2, 1, func(c *coder) { c.made("A").ops(0, 177) })
		a.method(api.Static, "second", "(LA;JLA;)LA;", 2, 4, func(c *coder) { c.ops(0, 1, 75, 0, 45, 176) })
		livesAre(t, c.what, c.want, a.main(6, c.locals, func(x *coder) {
			c.write(x)
			x.ops(177)
		}))
	}
}

// At the end nothing is held but static fields and texts.
func TestHeldAtTheEnd(t *testing.T) {
	a := linkClass(t, "A").field(api.Static, "o", anyType).field(api.Static, "j", "J")
	a.main(4, 3, func(c *coder) {
		c.made("A").member(179, "A", "s", "LA;").ops(8, 188, 11).member(179, "A", "o", anyType).long(-3).member(179, "A", "j", "J")
		c.made("A").ops(75).str("text").ops(76).str("a").str("b").ofText("concat").made("A").ops(177)
	})
	v := started(t, usual, a)
	ends(t, v)
	if n := v.Live(); n != 2+4+7+6+3+3 {
		t.Errorf("%d words", n)
	}
}

// chain: so many things that hang on each other, the last of them in a local; the first refers to the last if it is a ring.
func chain(c *coder, n int, ring bool) {
	l := []api.VType{obj("A"), obj("A"), intT}
	name := fmt.Sprint(len(c.code))
	c.made("A").ops(75, 42, 76).int(n-1).ops(61).mark("more"+name, l).ops(28).jump(153, "out"+name)
	c.made("A").ops(89, 42).member(181, "A", "next", "LA;").ops(75, 132, 2, 255).jump(167, "more"+name).mark("out"+name, l)
	if ring {
		c.ops(43, 42).member(181, "A", "next", "LA;")
	}
}

// A list of things that hang on each other, dropped: Live is as small as ahead of it; so of a ring.
func TestChains(t *testing.T) {
	for _, ring := range []bool{false, true} {
		for _, n := range []int{1, 2, 100, 499} {
			a := linkClass(t, "A").main(4, 3, func(c *coder) {
				chain(c, n, ring)
				c.ops(1, 89, 75, 76).ops(8).print("I").ops(177)
			})
			v := started(t, usual, a)
			most, last := 0, 0
			for v.Run(0, 1) == 1 {
				last = v.Live()
				most = max(most, last)
			}
			if most != 2+4*n || last != 2 || ends(t, v) != "5" {
				t.Errorf("%d things, ring %v: at the most %d words, at last %d", n, ring, most, last)
			}
		}
	}
}

// The heap is filled many times over by what goes, whatever room the young have and whenever is collected.
func TestFilledOver(t *testing.T) {
	a := linkClass(t, "A").main(4, 4, func(c *coder) {
		c.ops(16, 40, 59).mark("turn", []api.VType{intT})
		c.static("A", "ring", "()V").ops(132, 0, 255, 26).jump(154, "turn").ops(9).print("J").ops(177)
	})
	a.method(api.Static, "ring", "()V", 4, 3, func(c *coder) {
		chain(c, 20, true)
		c.ops(177)
	})
	for _, young := range []int{20, 21, 50, 100} {
		for every := range 5 {
			v := started(t, Options{Limit: 100, Young: young, Depth: 5}, a)
			for k := 0; v.Run(0, 1) == 1; k++ {
				if every > 0 && k%(every*every) == 0 {
					v.Collect(k%2 == 0)
				}
			}
			if got := ends(t, v); got != "0" || v.Live() != 2 {
				t.Errorf("young %d, collected every %d: %q, %d words", young, every, got, v.Live())
			}
		}
	}
}

// What is made fits to the word.
func TestJustFits(t *testing.T) {
	for _, c := range []struct {
		what  string
		words int // beside the one of 2 words that is always there
		write func(c *coder, n int)
	}{
		{"an array", 2, func(c *coder, n int) { c.int(n).ops(188, 10, 87) }},
		{"an array of things", 2, func(c *coder, n int) { c.int(n).with(189, c.class("A")).ops(87) }},
		{"behind what has gone", 2, func(c *coder, n int) { c.made("A").ops(87).int(n).ops(188, 10, 87).int(n).ops(188, 11, 87) }},
		{"beside a thing on the stack", 6, func(c *coder, n int) { c.made("A").int(n).ops(188, 10, 88) }},
		{"beside a thing in a local", 6, func(c *coder, n int) { c.made("A").ops(75).int(n).ops(188, 10, 87) }},
		{"beside a thing in a static field", 6, func(c *coder, n int) { c.made("A").member(179, "A", "s", "LA;").int(n).ops(188, 10, 87) }},
		{"beside a text", 5, func(c *coder, n int) { c.str("x").ops(87).int(n).ops(188, 10, 87) }},
		{"arrays in an array", 5, func(c *coder, n int) { c.ops(4).int(n).with(197, c.class("[[I")).ops(2, 87) }},
		{"a thing behind it", 6, func(c *coder, n int) { c.int(n).ops(188, 10).made("A").ops(88) }},
	} {
		for _, limit := range []int{100, 101, 5000} {
			for _, more := range []int{0, 1} {
				a := linkClass(t, "A").main(4, 1, func(x *coder) {
					c.write(x, limit-2-c.words+more)
					x.ops(177)
				})
				v := started(t, Options{Limit: limit, Young: 20, Depth: 3}, a)
				v.Run(0, 1000)
				s, why, _ := v.Thread(0)
				if more == 0 && s != 2 || more == 1 && (s != 3 || why != "java/lang/OutOfMemoryError") {
					t.Errorf("%s, limit %d, %d more: %d, %q", c.what, limit, more, s, why)
				}
			}
		}
	}
}

// concat holds its two texts till the third is made.
func TestConcatFits(t *testing.T) {
	// Texts that nothing else holds, of 30 units each: behind it 60 are there, with them 120.
	for _, limit := range []int{2 + 3 + 17 + 32 + 32 + 62, 2 + 3 + 17 + 32 + 32 + 61} {
		a := plain(t, 4, 1, func(c *coder) {
			c.str("a").ops(75)
			c.str("123456789012345").str("123456789012345").ofText("concat").ops(75)
			c.ops(42).str("123456789012345").str("123456789012345").ofText("concat").ops(1, 75).ofText("concat").ofText("length").print("I")
		})
		v := started(t, Options{Limit: limit, Young: 20, Depth: 3}, a)
		v.Run(0, 1000)
		s, why, _ := v.Thread(0)
		if limit%2 == 0 && (s != 2 || v.Out()[0] != "60") || limit%2 == 1 && (s != 3 || why != "java/lang/OutOfMemoryError") {
			t.Errorf("limit %d: %d, %q, %q", limit, s, why, v.Out())
		}
	}
}
