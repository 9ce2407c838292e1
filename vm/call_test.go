package vm

import (
	"fmt"
	"testing"

	"jvmcore/api"
)

// says: a method that prints a number.
func (b *built) says(flags uint16, name, of string, n byte) *built {
	return b.method(flags, name, of, 1, 3, func(c *coder) { c.ops(16, n).print("I").ops(177) })
}

// What a method takes are its first locals, in order, longs and doubles in two of them.
func TestTakes(t *testing.T) {
	body := func(from byte) func(c *coder) {
		return func(c *coder) {
			c.ops(21, from).print("I").ops(22, from+1).print("J").ops(25, from+3).printText().ops(24, from+4).print("D").ops(23, from+6).print("F").ops(21, from+7).print("I").ops(22, from+8).print("J")
			c.ops(22, from+1, 173)
		}
	}
	of := "(IJ" + textType + "DFZJ)J"
	a := newBuilt(t, "A", objectName, open, "I").maker().method(api.Static, "s", of, 2, 10, body(0)).method(api.Public, "v", of, 2, 11, body(1)).method(api.Private, "p", of, 2, 11, body(1))
	face := newBuilt(t, "I", objectName, openFace).bare(api.Public|api.Abstract, "v", of)
	pushAll := func(c *coder) *coder {
		return c.ops(8).long(-7).str("x").double(3).ops(13, 4).long(9)
	}
	a.method(0, "self", "()V", 20, 1, func(c *coder) { pushAll(c.ops(42)).special("A", "p", of).print("J").ops(177) })
	a.main(20, 1, func(c *coder) {
		c.made("A").ops(75)
		pushAll(c.ops(2)).static("A", "s", of).print("J").print("I")
		pushAll(c.ops(2, 42)).virtual("A", "v", of).print("J").print("I")
		pushAll(c.ops(2, 42)).face("I", "v", of, 11).print("J").print("I")
		c.ops(42).virtual("A", "self", "()V").ops(177)
	})
	once := "5 -7 'x d3 f40000000 1 9 -7"
	prints(t, "takes", list(once, "-1", once, "-1", once, "-1", once), a, face)
}

// slots: 254 of them, and none.
func TestTakesMany(t *testing.T) {
	of := "("
	for range 127 {
		of += "J"
	}
	of += ")V"
	a := newBuilt(t, "A", objectName, open).maker().method(api.Public, "all", of, 2, 255, func(c *coder) { c.ops(22, 253).print("J").ops(22, 1).print("J").ops(177) })
	a.main(255, 0, func(c *coder) {
		c.made("A")
		for k := range 127 {
			c.long(int64(k))
		}
		c.virtual("A", "all", of).ops(177)
	})
	prints(t, "many", "126 0", a)
}

// Which method is called: 182, 185 and 183 over three classes and an interface.
func TestChosen(t *testing.T) {
	face := newBuilt(t, "I", objectName, openFace).bare(api.Public|api.Abstract, "v", "()V").bare(api.Public|api.Abstract, "w", "()V")
	deep := newBuilt(t, "J", objectName, openFace, "I")
	a := newBuilt(t, "A", objectName, open|api.Abstract, "J").maker().says(api.Public, "v", "()V", 1).says(api.Public, "w", "()V", 2).says(api.Private, "p", "()V", 3).says(0, "x", "()V", 4).bare(api.Public|api.Abstract, "z", "()V").says(api.Public|api.Static, "s", "()V", 5)
	b := newBuilt(t, "B", "A", open).maker().says(api.Public, "v", "()V", 11).says(api.Public, "p", "()V", 13).says(api.Public, "z", "()V", 16)
	c := newBuilt(t, "C", "B", open).maker().says(api.Public, "v", "()V", 21).says(0, "x", "()V", 24).says(api.Public, "s", "()I", 25)
	c.Methods = c.Methods[:len(c.Methods)-1]
	c.method(api.Public, "up", "()V", 1, 1, func(x *coder) {
		x.ops(42).special("B", "v", "()V").ops(42).special("A", "v", "()V").ops(42).special("A", "w", "()V").ops(42).special("B", "z", "()V").ops(42).special("C", "v", "()V").ops(42).special("A", "x", "()V").ops(177)
	})
	a.method(api.Public, "own", "()V", 1, 1, func(x *coder) {
		x.ops(42).special("A", "p", "()V").ops(42).virtual("A", "p", "()V").ops(42).virtual("A", "v", "()V").ops(177)
	})
	main := newBuilt(t, "M", objectName, open).main(2, 1, func(x *coder) {
		x.made("C").ops(75)
		x.ops(42).virtual("A", "v", "()V").ops(42).virtual("A", "w", "()V").ops(42).virtual("B", "x", "()V").ops(42).virtual("A", "z", "()V")
		x.ops(42).face("I", "v", "()V", 1).ops(42).face("J", "w", "()V", 1)
		x.ops(42).virtual("C", "up", "()V")
		x.ops(42).virtual("A", "own", "()V").static("C", "s", "()V")
		x.made("B").ops(75).ops(42).virtual("A", "v", "()V").ops(42).face("J", "v", "()V", 1).ops(42).virtual("B", "p", "()V").ops(177)
	})
	prints(t, "chosen", list("21 2 24 16", "21 2", "11 11 2 16 21 4", "3 3 21 5", "11 11 13"), main, face, deep, a, b, c)
}

// The same call of things of different classes, one behind the other.
func TestChosenAnew(t *testing.T) {
	face := newBuilt(t, "I", objectName, openFace).bare(api.Public|api.Abstract, "v", "()V")
	l := []*built{face}
	for k := range 3 {
		l = append(l, newBuilt(t, fmt.Sprint("C", k), objectName, open, "I").maker().says(api.Public, "v", "()V", byte(k)))
	}
	main := newBuilt(t, "M", objectName, open).method(api.Static, "f", "(LI;)V", 1, 1, func(c *coder) { c.ops(42).face("I", "v", "()V", 1).ops(177) })
	main.main(2, 0, func(c *coder) {
		for _, k := range []int{0, 1, 0, 2, 2, 1} {
			c.made(fmt.Sprint("C", k)).static("M", "f", "(LI;)V")
		}
		c.ops(177)
	})
	prints(t, "anew", "0 1 0 2 2 1", append([]*built{main}, l...)...)
}

// 183 without SuperFlag calls the method that was found, with it the one of what is above.
func TestSuperFlag(t *testing.T) {
	for flags, want := range map[uint16]string{api.Public | api.SuperFlag: "2 2", api.Public: "1 2"} {
		top := newBuilt(t, "T", objectName, open).maker().says(api.Public, "v", "()V", 1)
		mid := newBuilt(t, "U", "T", open).maker().says(api.Public, "v", "()V", 2)
		low := newBuilt(t, "L", "U", flags).maker().says(api.Public, "v", "()V", 3)
		low.method(api.Public, "up", "()V", 1, 1, func(c *coder) {
			c.ops(42).special("T", "v", "()V").ops(42).special("U", "v", "()V").ops(177)
		})
		main := newBuilt(t, "M", objectName, open).main(2, 0, func(c *coder) { c.made("L").virtual("L", "up", "()V").ops(177) })
		prints(t, fmt.Sprintf("flags %#x", flags), want, main, top, mid, low)
	}
}

// <init> of classes above, each with what it takes.
func TestMakers(t *testing.T) {
	top := newBuilt(t, "T", objectName, open).field(0, "n", "I").method(api.Public, "<init>", "(I)V", 2, 2, func(c *coder) {
		c.ops(42).init(objectName).ops(42, 27).member(181, "T", "n", "I").ops(177)
	})
	mid := newBuilt(t, "U", "T", open).field(0, "j", "J").method(api.Public, "<init>", "(JI)V", 3, 4, func(c *coder) {
		c.ops(42, 31).member(181, "U", "j", "J").ops(42, 29).special("T", "<init>", "(I)V").ops(177)
	})
	main := plain(t, 6, 1, func(c *coder) {
		c.with(187, c.class("U")).ops(89).long(1<<40).ops(8).special("U", "<init>", "(JI)V").ops(75)
		c.ops(42).member(180, "T", "n", "I").print("I").ops(42).member(180, "U", "j", "J").print("J")
	})
	prints(t, "makers", "5 1099511627776", main, top, mid)
}

// <init> is that of the class that is told, also where one of the same descriptor stands between.
func TestMakersBetween(t *testing.T) {
	said := func(name, super string, n byte) *built {
		return newBuilt(t, name, super, open).method(api.Public, "<init>", "()V", 1, 1, func(c *coder) { c.ops(16, n).print("I").ops(42).init(super).ops(177) })
	}
	a := newBuilt(t, "A", "U", open).maker().main(2, 0, func(c *coder) { c.made("T").ops(87).made("U").ops(87).made("A").ops(87, 177) })
	prints(t, "makers between", "1 2 1 2 1", a, said("T", objectName, 1), said("U", "T", 2))
}

// sums: f of n is n and f of n less 1, or 0.
func sums(t *testing.T) *built {
	return newBuilt(t, "A", objectName, open).method(api.Static, "f", "(I)I", 3, 1, func(c *coder) {
		c.ops(26).jump(154, "more").ops(3, 172).mark("more", []api.VType{intT}).ops(26, 26, 4, 100).static("A", "f", "(I)I").ops(96, 172)
	})
}

// A method that calls itself gives what its definition says, up to the last frame that there may be.
func TestDepth(t *testing.T) {
	for _, depth := range []int{2, 3, 5, 100, 1000} {
		for _, less := range []int{0, 1, -1} {
			n := depth - 2 - less // of frames one is main's, and one that of f(0)
			if n < 0 {
				continue
			}
			a := sums(t).main(1, 0, func(c *coder) { c.int(n).static("A", "f", "(I)I").print("I").ops(177) })
			v := started(t, Options{100, 20, depth}, a)
			v.Run(0, 1000000)
			s, why, _ := v.Thread(0)
			switch {
			case less < 0:
				if s != 3 || why != "java/lang/StackOverflowError" || len(v.Out()) != 0 {
					t.Errorf("depth %d, f(%d): %d, %q, %q", depth, n, s, why, v.Out())
				}
			case s != 2 || len(v.Out()) != 1 || v.Out()[0] != fmt.Sprint(n*(n+1)/2):
				t.Errorf("depth %d, f(%d): %d, %q, %q", depth, n, s, why, v.Out())
			}
		}
	}
}

// In the last frame that there may be a native method can be called, as it has none.
func TestNativeInDepth(t *testing.T) {
	a := newBuilt(t, "A", objectName, open).method(api.Static, "f", "()V", 1, 0, func(c *coder) { c.str("x").ofText("length").print("I").ops(177) })
	a.main(1, 0, func(c *coder) { c.static("A", "f", "()V").ops(177) })
	if got := ends(t, started(t, Options{100, 20, 2}, a)); got != "1" {
		t.Errorf("printed %q", got)
	}
}

// Fibonacci's numbers, by two calls of itself; and how many steps all of it takes.
func TestFibonacci(t *testing.T) {
	a := newBuilt(t, "A", objectName, open).method(api.Static, "f", "(I)J", 4, 1, func(c *coder) {
		c.ops(26, 5).jump(162, "more").ops(26, 133, 173).mark("more", []api.VType{intT})
		c.ops(26, 4, 100).static("A", "f", "(I)J").ops(26, 5, 100).static("A", "f", "(I)J").ops(97, 173)
	})
	a.main(2, 0, func(c *coder) { c.ops(16, 19).static("A", "f", "(I)J").print("J").ops(177) })
	prints(t, "fibonacci", "4181", a)
	var steps func(n int) int
	steps = func(n int) int {
		if n < 2 {
			return 6
		}
		return 13 + steps(n-1) + steps(n-2)
	}
	v := started(t, usual, a)
	if n := v.Run(0, 1<<40); n != 1+4+steps(19) {
		t.Errorf("%d steps, want %d", n, 1+4+steps(19))
	}
}

// Synchronized methods run as others do, in one thread; their thing is held till they are over.
func TestSynchronized(t *testing.T) {
	a := newBuilt(t, "A", objectName, open).maker().method(api.Synchronized, "m", "()V", 1, 1, func(c *coder) { c.ops(1, 75, 0, 177) })
	a.method(api.Synchronized|api.Static, "s", "()V", 1, 0, func(c *coder) { c.ops(177) })
	a.main(2, 0, func(c *coder) { c.made("A").virtual("A", "m", "()V").static("A", "s", "()V").ops(177) })
	v := started(t, usual, a)
	if got := fmt.Sprint(lives(v)); got != "[2 2 4 4 4 4 4 4 4 4 4 4 4 2 2 2 2]" {
		t.Errorf("words: %s", got)
	}
	ends(t, v)
}
