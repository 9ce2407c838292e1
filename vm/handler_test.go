package vm

import (
	"fmt"
	"strings"
	"testing"

	"jvmcore/api"
)

// divide: throws an ArithmeticException, in its third step.
func (c *coder) divide() *coder { return c.ops(4, 3, 108, 87) }

// throwNew: of a class, by 191.
func (c *coder) throwNew(class string) *coder { return c.made(class).ops(191) }

// say: a number is printed.
func (c *coder) say(n byte) *coder { return c.ops(16, n).print("I") }

// takes: what a handler does: it drops what it took, and prints a number.
func (c *coder) takes(name string, n byte) *coder {
	return c.mark(name, nil, throwableT).ops(87).say(n)
}

// taker: and returns.
func (c *coder) taker(name string, n byte) *coder { return c.takes(name, n).ops(177) }

// errorClasses: E below Exception, F below E, G below Error.
func errorClasses(t *testing.T) []*built {
	return []*built{
		newBuilt(t, "E", lang+"Exception", open, "java/lang/Cloneable").maker(),
		newBuilt(t, "F", "E", open).maker(),
		newBuilt(t, "G", lang+"Error", open).maker(),
	}
}

// Of handlers for the same place the first takes that may.
func TestHandlersInOrder(t *testing.T) {
	for _, c := range []struct {
		thrown   string
		handlers string // their classes, Any for 0
		taken    int    // -1: by none
	}{
		{"F", "", -1}, {"F", "F", 0}, {"F", "E", 0}, {"F", "java/lang/Exception", 0}, {"F", "java/lang/Throwable", 0}, {"F", "Any", 0},
		{"F", "G", -1}, {"F", "java/lang/Error", -1}, {"F", "java/lang/RuntimeException", -1}, {"E", "F", -1}, {"E", "F E", 1}, {"E", "E F", 0},
		{"F", "E F", 0}, {"F", "F E", 0}, {"F", "F F", 0}, {"F", "Any F", 0}, {"F", "F Any", 0}, {"F", "G Any F", 1}, {"F", "G java/lang/Error java/lang/Throwable E Any", 2},
		{"G", "java/lang/Exception java/lang/VirtualMachineError java/lang/Error Any", 2}, {"G", "java/lang/Exception E F", -1},
		{"java/lang/ArithmeticException", "java/lang/NullPointerException java/lang/RuntimeException", 1}, {"java/lang/ArrayIndexOutOfBoundsException", "java/lang/StringIndexOutOfBoundsException java/lang/IndexOutOfBoundsException", 1},
		{"java/lang/NoSuchFieldError", "java/lang/NoSuchMethodError java/lang/IncompatibleClassChangeError java/lang/LinkageError", 1}, {"java/lang/StackOverflowError", "java/lang/OutOfMemoryError java/lang/VirtualMachineError", 1},
		{"java/lang/Throwable", "java/lang/Exception java/lang/Error java/lang/Throwable", 2}, {"java/lang/Throwable", "java/lang/Exception java/lang/Error", -1},
	} {
		what := fmt.Sprintf("%s, by %q", c.thrown, c.handlers)
		l := []*built{newBuilt(t, "A", objectName, open).main(2, 0, func(x *coder) {
			x.here("from").throwNew(c.thrown).here("to")
			for k, class := range strings.Fields(c.handlers) {
				x.taker(fmt.Sprint(k), byte(k)).guard("from", "to", fmt.Sprint(k), strings.TrimPrefix(class, "Any"))
			}
		})}
		v := started(t, usual, append(l, errorClasses(t)...)...)
		if c.taken < 0 {
			if why, _ := dies(t, v); why != c.thrown || v.Live() != 2 {
				t.Errorf("%s: died of %s, %d words", what, why, v.Live())
			}
		} else if got := ends(t, v); got != fmt.Sprint(c.taken) {
			t.Errorf("%s: printed %q", what, got)
		}
	}
}

// A handler's class must be one of what can be thrown: an interface is none, though what is thrown has it.
func TestHandlerOfInterface(t *testing.T) {
	for class, want := range map[string]api.Errno{"java/lang/Cloneable": api.ErrVerify, "java/io/Serializable": api.ErrVerify, objectName: api.ErrVerify, "[LE;": api.ErrVerify, "None": api.ErrNoClass, "E": api.OK} {
		a := newBuilt(t, "A", objectName, open).main(2, 0, func(c *coder) {
			c.here("from").throwNew("E").here("to").taker("taken", 1).guard("from", "to", "taken", class)
		})
		v := machine(t, usual, append(errorClasses(t), a)...)
		if n, e := v.Start("A"); n != 0 || e != want {
			t.Errorf("%s: Start = %d, %d, want %d", class, n, e, want)
		}
	}
}

// In reach is the first place, and the last, but not the one behind it.
func TestHandlersReach(t *testing.T) {
	for _, c := range []struct {
		from, to string
		taken    bool
	}{
		{"a", "b", false}, {"a", "c", false}, {"a", "d", true}, {"a", "e", true}, {"a", "end", true}, {"b", "c", false}, {"b", "d", true}, {"c", "d", true}, {"c", "end", true}, {"d", "e", false}, {"d", "end", false}, {"e", "end", false},
	} {
		a := newBuilt(t, "A", objectName, open).main(2, 0, func(x *coder) {
			x.jump(167, "on").taker("taken", 1).mark("on", nil)
			x.here("a").ops(4).here("b").ops(3).here("c").ops(108).here("d").ops(87).here("e").ops(177).here("end").guard(c.from, c.to, "taken", "")
		})
		v := started(t, usual, a)
		v.Run(0, 100)
		if s, why, _ := v.Thread(0); c.taken != (s == 2 && why == "") || !c.taken && why != lang+"ArithmeticException" {
			t.Errorf("%v: %d, %q", c, s, why)
		}
	}
}

// A handler may be in its own reach, and in that of others; what it throws is taken anew.
func TestHandlersThrow(t *testing.T) {
	for what, c := range map[string]struct {
		want  string
		write func(c *coder)
	}{
		"what it took": {"1 3", func(c *coder) {
			c.here("a").divide().ops(177).here("b").mark("one", nil, throwableT).say(1).here("c").ops(191).here("d").taker("two", 3).guard("a", "b", "one", "").guard("c", "d", "two", lang+"ArithmeticException")
		}},
		"something else": {"1 4", func(c *coder) {
			c.here("a").divide().ops(177).here("b").mark("one", nil, throwableT).say(1).here("c").ops(87, 1, 191).here("d").taker("two", 3).taker("three", 4).guard("a", "b", "one", "").guard("c", "d", "two", lang+"ArithmeticException").guard("a", "d", "three", lang+"NullPointerException")
		}},
		"in its own reach": {"1 2", func(c *coder) {
			c.here("a").divide().ops(177).mark("one", nil, throwableT).ops(87).say(1).ops(1, 191).here("b").taker("two", 2).guard("a", "b", "two", lang+"NullPointerException").guard("a", "b", "one", lang+"RuntimeException")
		}},
		"out of the reach of others": {"1 2", func(c *coder) {
			c.here("a").divide().ops(177).here("b").mark("one", nil, throwableT).say(1).ops(87).static("A", "twice", "()V").ops(177).guard("a", "b", "one", "")
		}},
	} {
		a := newBuilt(t, "A", objectName, open).main(3, 0, c.write)
		a.method(api.Static, "twice", "()V", 2, 0, func(x *coder) {
			x.here("a").here("b").divide().here("c").ops(177).taker("one", 2).taker("two", 3).guard("a", "c", "one", "").guard("b", "c", "two", "")
		})
		prints(t, what, c.want, a)
	}
}

// A handler that throws what it took, in its own reach: for ever, but step by step.
func TestHandlerForEver(t *testing.T) {
	v := started(t, usual, newBuilt(t, "A", objectName, open).main(2, 0, func(c *coder) {
		c.here("a").divide().ops(177).mark("one", nil, throwableT).ops(0, 191).here("b").guard("a", "b", "one", "")
	}))
	v.Run(0, 4)
	for range 50 {
		if n := v.Run(0, 99); n != 99 || v.Live() != 4 {
			t.Fatalf("%d steps, %d words", n, v.Live())
		}
	}
}

// The frame ahead is looked at, at the place of its call.
func TestFrameAhead(t *testing.T) {
	for _, c := range []struct {
		from, to string
		taken    bool
	}{
		{"a", "b", true}, {"first", "b", true}, {"a", "end", true}, {"first", "a", false}, {"b", "end", false}, {"first", "end", true},
	} {
		a := newBuilt(t, "A", objectName, open).main(4, 0, func(x *coder) {
			x.jump(167, "on").taker("taken", 1).mark("on", nil)
			x.here("first").ops(5, 6).here("a").static("A", "f", "(I)V").here("b").ops(87, 177).here("end").guard(c.from, c.to, "taken", "")
		})
		a.method(api.Static, "f", "(I)V", 3, 1, func(x *coder) {
			x.here("a").ops(0).here("b").ops(26).divide().ops(87, 177).taker("none", 2).guard("a", "b", "none", "").guard("b", "none", "none", lang+"Error")
		})
		v := started(t, usual, a)
		n := v.Run(0, 10)
		if s, why, _ := v.Thread(0); n != 10 || c.taken != (s == 0 && why == "") || !c.taken && why != lang+"ArithmeticException" {
			t.Errorf("%v: %d steps, %d, %q", c, n, s, why)
		}
		if n := v.Run(0, 10); c.taken && (n != 4 || ends(t, v) != "1") || !c.taken && n != 0 {
			t.Errorf("%v: %d steps more", c, n)
		}
	}
}

// What is thrown goes over many frames in one step, whose things nothing holds then.
func TestManyFrames(t *testing.T) {
	for _, depth := range []int{3, 10, 1000} {
		write := func(c *coder) { c.static("A", "deep", "()V") }
		for _, a := range []*built{guarded(t, 1, 0, lang+"VirtualMachineError", write), guarded(t, 1, 0, lang+"LinkageError", write)} {
			a.method(api.Static, "deep", "()V", 4, 1, func(c *coder) {
				c.ops(3, 188, 10, 75, 4, 3, 188, 11).here("a").static("A", "deep", "()V").here("b").ops(88, 177).taker("no", 7).guard("a", "b", "no", lang+"Exception")
			})
			v := started(t, Options{5000, 100, depth}, a)
			steps := 2 + 7*(depth-2) + 6
			if n := v.Run(0, steps); n != steps || v.Live() != 2+4*(depth-1) {
				t.Errorf("depth %d: %d steps, %d words", depth, n, v.Live())
			}
			v.Run(0, 1)
			switch s, why, _ := v.Thread(0); {
			case s == 0:
				if v.Live() != 4 || ends(t, v) != "9" {
					t.Errorf("depth %d: taken: %d words, printed %q", depth, v.Live(), v.Out())
				}
			case why != lang+"StackOverflowError" || v.Live() != 2 || v.Run(0, 1) != 0:
				t.Errorf("depth %d: %d, %q, %d words", depth, s, why, v.Live())
			}
		}
	}
}

// The stack is that thing alone; locals stay as they are.
func TestStackOfHandler(t *testing.T) {
	a := newBuilt(t, "A", objectName, open).main(8, 2, func(c *coder) {
		c.ops(3, 188, 10, 75) // 2 words in a local
		c.here("a").ops(3, 188, 10, 4, 188, 10, 9, 4, 3, 108, 87, 88, 88, 177).here("b")
		c.mark("taken", []api.VType{obj("[I")}, throwableT).ops(0, 76, 0, 42, 190).print("I").ops(1, 76, 0, 1, 75, 0, 177).guard("a", "b", "taken", "")
	})
	v := started(t, usual, a)
	var got []int
	for _, n := range lives(v) {
		if len(got) == 0 || got[len(got)-1] != n {
			got = append(got, n)
		}
	}
	if fmt.Sprint(got) != "[2 4 6 9 6 4 2]" || ends(t, v) != "0" {
		t.Errorf("words %v, printed %q", got, v.Out())
	}
}

// A thread that has died is of no matter for others.
func TestOtherThreads(t *testing.T) {
	a := newBuilt(t, "A", objectName, open).field(api.Static, "n", "I").field(api.Static, "o", anyType).main(3, 1, func(c *coder) {
		c.array(10).ops(75).member(178, "A", "n", "I").ops(4, 96, 89).member(179, "A", "n", "I").ops(89).print("I").ops(6, 112, 59)
		c.array(7).member(179, "A", "o", anyType).ops(4, 26, 108, 87, 177)
	})
	v := machine(t, usual, a)
	for k := range 7 {
		if n, e := v.Start("A"); n != k || e != api.OK {
			t.Fatalf("Start = %d, %d", n, e)
		}
		v.Run(k, 1000)
	}
	for k := range 7 {
		s, why, e := v.Thread(k)
		if third := k%3 == 2; e != api.OK || third != (s == 3 && why == lang+"ArithmeticException") || !third && (s != 2 || why != "") || v.Run(k, 9) != 0 {
			t.Errorf("thread %d: %d, %q, %d", k, s, why, e)
		}
	}
	if v.Threads() != 7 || v.Live() != 2+9 || strings.Join(v.Out(), " ") != "1 2 3 4 5 6 7" {
		t.Errorf("%d threads, %d words, printed %q", v.Threads(), v.Live(), v.Out())
	}
}
