package vm

import (
	"fmt"
	"strings"
	"testing"

	"jvmcore/api"
)

const (
	syncOpen   = api.Public | api.Synchronized
	syncStatic = api.Public | api.Static | api.Synchronized
)

// syncClasses: S with Synchronized methods that do nothing in two steps, B below it, and interface I, whose v both have.
func syncClasses(t *testing.T) []*built {
	two := func(c *coder) { c.ops(0, 177) }
	s := newBuilt(t, "S", objectName, open, "I").maker().field(api.Static, "s", "I")
	s.method(syncOpen, "v", "()V", 0, 1, two).method(api.Private|api.Synchronized, "p", "()V", 0, 1, two).method(syncStatic, "f", "()V", 0, 0, two)
	s.method(api.Public, "own", "()V", 1, 1, func(c *coder) { c.ops(42).special("S", "p", "()V").ops(177) })
	s.method(syncOpen, "w", "()V", 0, 1, two)
	b := newBuilt(t, "B", "S", open).maker().field(api.Static, "s", "I")
	b.method(api.Public, "w", "()V", 1, 1, func(c *coder) { c.ops(42).special("S", "w", "()V").ops(177) })
	b.method(syncStatic, "g", "()V", 0, 0, two)
	return []*built{s, b, newBuilt(t, "I", objectName, openFace).bare(api.Public|api.Abstract, "v", "()V")}
}

// syncCrowd: O.s is of a class, S or B; both are initialised.
func syncCrowd(t *testing.T, class string) crowd {
	return crowd{others: syncClasses(t), setup: func(c *coder) { c.get("S").get("B").made(class).member(179, "O", "s", "LS;") }}
}

// syncCalls: of Synchronized methods, of O.s or of none.
func syncCalls() map[string]func(c *coder) {
	return map[string]func(c *coder){
		"182":               func(c *coder) { c.s().virtual("S", "v", "()V") },
		"183, Private":      func(c *coder) { c.s().virtual("S", "own", "()V") },
		"183, above":        func(c *coder) { c.s().with(192, c.class("B")).virtual("B", "w", "()V") },
		"184":               func(c *coder) { c.static("S", "f", "()V") },
		"184, by one below": func(c *coder) { c.static("B", "f", "()V") },
		"185":               func(c *coder) { c.s().face("I", "v", "()V", 1) },
		"182, by one below": func(c *coder) { c.s().with(192, c.class("B")).virtual("B", "v", "()V") },
	}
}

// stepsAlone: how many steps a main takes, behind that of its class, if nobody else runs.
func stepsAlone(t *testing.T, w crowd, write func(c *coder)) int {
	t.Helper()
	v := w.begun(t, write)
	n := 0
	for v.Run(1, 1) == 1 {
		n++
	}
	return n
}

// A Synchronized method has its lock till its frame is over; a call that cannot go on comes again, with what it took still on the stack.
func TestSynchronizedCalls(t *testing.T) {
	for what, write := range syncCalls() {
		last := 2  // the method's return, and main's
		ahead := 1 // O.s
		switch {
		case strings.HasPrefix(what, "183, P"):
			last, ahead = 3, 3
		case strings.HasPrefix(what, "183"):
			last, ahead = 3, 4
		case strings.HasPrefix(what, "184"):
			ahead = 0
		case what == "182, by one below":
			ahead = 2
		}
		in := ahead + 2 // the call, and nop
		words := fmt.Sprintf("1*%d=%[1]d 1:0 2*99=%d 2:0 2*1=0 live=8 2*99=0 live=8 1*1=1 live=8 2*1=1 2:0 1*9=%d 1:2 2*9=%d 2:2 live=8", in, ahead, last-1, last+1)
		scripts(t, what, syncCrowd(t, "B"), words, write, write)
		scripts(t, what+", twice", syncCrowd(t, "B"), fmt.Sprintf("1*99=%d 1:2 2*99=%[1]d 2:2", in+last), write, write)
	}
}

// Which locks are one, and which are two: of the things, of S, of B.
func TestSynchronizedLocks(t *testing.T) {
	calls := syncCalls()
	calls["194"] = func(c *coder) { c.s().ops(194, 0).s().ops(195) }
	calls["B.g"] = func(c *coder) { c.static("B", "g", "()V") }
	calls["another thing"] = func(c *coder) { c.made("B").virtual("S", "v", "()V") }
	lock := func(what string) string {
		switch {
		case strings.HasPrefix(what, "184"):
			return "S"
		case what == "B.g" || what == "another thing":
			return what
		}
		return "O.s"
	}
	for first, write := range calls {
		for second, other := range calls {
			v := syncCrowd(t, "B").begun(t, write, other)
			v.Run(1, stepsAlone(t, syncCrowd(t, "B"), write)-map[bool]int{true: 4, false: 3}[strings.HasPrefix(first, "183")])
			if first != "194" {
				v.Run(1, 1) // up to ahead of the method's return
			}
			v.Run(2, 99)
			if s, _, _ := v.Thread(2); (s == 2) != (lock(first) != lock(second) || first == "another thing") {
				t.Errorf("%s, then %s: state %d", first, second, s)
			}
			v.Run(1, 99)
			v.Run(2, 99)
			script(t, first+", then "+second, v, "1:2 2:2")
		}
	}
}

// The lock is taken once more by each call within another, and let go by each that is back.
func TestSynchronizedDeep(t *testing.T) {
	s := newBuilt(t, "S", objectName, open).maker()
	s.method(syncOpen, "v", "(I)V", 3, 2, func(c *coder) {
		c.ops(27).jump(153, "out").ops(42, 27, 4, 100).virtual("S", "v", "(I)V").mark("out", []api.VType{obj("S"), intT}).ops(177)
	})
	w := crowd{others: []*built{s}, setup: func(c *coder) { c.made("S").member(179, "O", "s", "LS;") }}
	first := func(c *coder) { c.s().ops(6).virtual("S", "v", "(I)V") }
	second := func(c *coder) { c.s().ops(194) }
	// Three calls within the first, of seven steps each; two steps of the last; four are back.
	scripts(t, "deep", w, "1*3=3 2*9=1 2*9=0 1*21=21 2*9=0 1*2=2 2*9=0 1*1=1 2*9=0 1*1=1 2*9=0 1*1=1 2*9=0 1*1=1 2*9=2 2:2 1*9=1 1:2", first, second)
	// 194 beside it.
	third := func(c *coder) { c.s().ops(194).s().ops(3).virtual("S", "v", "(I)V").s().ops(195) }
	scripts(t, "194 beside it", w, "1*7=7 2*9=1 1*1=1 2*9=0 1*1=1 2*9=0 1*1=1 2*9=2 2:2 1*9=1 1:2", third, second)
}

// Each return lets the lock go, and gives back what it has to.
func TestSynchronizedReturns(t *testing.T) {
	for of, ops := range map[string][]byte{"I": {8, 172, 87}, "Z": {5, 172, 87}, "J": {10, 173, 88}, "F": {12, 174, 87}, "D": {15, 175, 88}, anyType: {1, 176, 87}, "V": {0, 177, 0}} {
		for flags, name := range map[uint16]string{syncOpen: "v", syncStatic: "f"} {
			s := newBuilt(t, "S", objectName, open).maker().method(flags, name, "()"+of, 2, 1, func(c *coder) { c.ops(ops[0], ops[1]) })
			w := crowd{others: []*built{s}, setup: func(c *coder) { c.made("S").member(179, "O", "s", "LS;") }}
			write := func(c *coder) {
				if name == "f" {
					c.ops(0).static("S", name, "()"+of)
				} else {
					c.s().virtual("S", name, "()"+of)
				}
				c.ops(ops[2])
			}
			scripts(t, of+" of "+name, w, "1*3=3 2*9=1 2*9=0 1*1=1 2*9=5 2:2 1*9=2 1:2", write, write)
		}
	}
}

// What is thrown lets go the locks of the frames that are over, and of those alone.
func TestSynchronizedThrows(t *testing.T) {
	classes := func(inner func(c *coder)) []*built {
		s := newBuilt(t, "S", objectName, open).maker()
		s.method(syncOpen, "v", "()V", 2, 1, inner)
		s.method(syncStatic, "f", "()V", 2, 0, func(c *coder) { c.s().virtual("S", "v", "()V").ops(177) })
		s.method(syncStatic, "takes", "()V", 2, 0, func(c *coder) {
			c.here("a").static("S", "f", "()V").here("b").ops(177).taker("taken", 6).guard("a", "b", "taken", "")
		})
		return []*built{s}
	}
	setup := func(c *coder) { c.made("S").member(179, "O", "s", "LS;") }
	throwing := func(c *coder) { c.divide().ops(177) }
	within := func(c *coder) {
		c.here("a").divide().here("b").ops(177).mark("taken", []api.VType{obj("S")}, throwableT).ops(87, 0, 177).guard("a", "b", "taken", "")
	}
	main := func(name string, class string) func(c *coder) {
		return func(c *coder) {
			c.here("a")
			if name == "v" {
				c.s().virtual("S", "v", "()V")
			} else {
				c.static("S", name, "()V")
			}
			c.here("b").ops(177).takes("taken", 5).guard("a", "b", "taken", class)
		}
	}
	thing, class := func(c *coder) { c.s().ops(194).say(8) }, func(c *coder) { c.static("S", "f", "()V") }
	w := crowd{others: classes(throwing), setup: setup}
	scripts(t, "one frame", w, "1*4=4 2*9=1 2*9=0 1*1=1 2*9=4 2:2 1*9=4 1:2 out=8,5", main("v", lang+"RuntimeException"), thing)
	scripts(t, "and dies", w, "1*4=4 2*9=1 2*9=0 1*1=1 1:3/ArithmeticException 2*9=4 2:2 out=8", main("v", lang+"Error"), thing)
	scripts(t, "two frames", w, "1*5=5 2*9=1 3*9=0 1*1=1 3*1=1 2*1=1 1:0 1*9=4 1:2 out=5", main("f", ""), thing, class)
	scripts(t, "two frames, and dies", w, "1*5=5 2*9=1 3*9=0 1*1=1 1:3/ArithmeticException 3*1=1 2*1=1", main("f", lang+"Error"), thing, class)
	scripts(t, "two of three", w, "1*6=6 2*9=1 3*9=0 1*1=1 2*1=1 3*9=0 1:0 1*3=3 3*9=0 1*1=1 3*1=1 out=6", main("takes", ""), thing, class)
	w.others = classes(within)
	scripts(t, "a handler within keeps it", w, "1*4=4 2*9=1 1*1=1 2*9=0 1*2=2 2*9=0 1*1=1 2*9=4 2:2 1*9=1 1:2 out=8", main("v", ""), thing)
}

// Behind all errors of the call: they are thrown though the lock is another's, and nothing is taken.
func TestSynchronizedErrors(t *testing.T) {
	two := func(c *coder) { c.ops(0, 177) }
	s := newBuilt(t, "S", objectName, open|api.Abstract).maker().field(api.Static, "s", "I").method(syncStatic, "f", "()V", 1, 0, two).method(syncOpen, "v", "()V", 1, 1, two)
	s.bare(syncOpen|api.Native, "n", "()V").bare(syncStatic|api.Native, "m", "()V").bare(api.Public|api.Abstract, "x", "()V").method(api.Private|api.Synchronized, "p", "()V", 0, 1, two)
	d := newBuilt(t, "D", objectName, open).field(api.Static, "s", "I")
	for k, next := range []string{"b", "c"} {
		d.method(api.Static, "abc"[k:k+1], "(Z)V", 1, 1, func(c *coder) { c.ops(26).static("D", next, "(Z)V").ops(177) })
	}
	d.method(api.Static, "c", "(Z)V", 1, 1, func(c *coder) {
		c.ops(26).jump(153, "thing").static("S", "f", "()V").ops(177).mark("thing", []api.VType{intT}).s().virtual("S", "v", "()V").ops(177)
	})
	w := crowd{Options: Options{2000, 100, 4}, others: []*built{s, newBuilt(t, "B", "S", open).maker(), d}, setup: func(c *coder) { c.get("S").get("D").made("B").member(179, "O", "s", "LS;") }}
	for what, c := range map[string]struct {
		want  string
		write func(c *coder)
	}{
		"none":            {"NullPointerException", func(c *coder) { c.ops(1).with(192, c.class("S")).virtual("S", "v", "()V") }},
		"native, Static":  {"UnsatisfiedLinkError", func(c *coder) { c.static("S", "m", "()V") }},
		"native":          {"UnsatisfiedLinkError", func(c *coder) { c.s().virtual("S", "n", "()V") }},
		"abstract":        {"AbstractMethodError", func(c *coder) { c.s().virtual("S", "x", "()V") }},
		"private":         {"IllegalAccessError", func(c *coder) { c.s().virtual("S", "p", "()V") }},
		"Static, by 182":  {"IncompatibleClassChangeError", func(c *coder) { c.s().virtual("S", "f", "()V") }},
		"a thing's, 184":  {"IncompatibleClassChangeError", func(c *coder) { c.static("S", "v", "()V") }},
		"no such":         {"NoSuchMethodError", func(c *coder) { c.static("S", "none", "()V") }},
		"too deep":        {"StackOverflowError", func(c *coder) { c.ops(4).static("D", "a", "(Z)V") }},
		"too deep, thing": {"StackOverflowError", func(c *coder) { c.ops(3).static("D", "a", "(Z)V") }},
	} {
		first := func(c *coder) { c.s().ops(194).static("S", "f", "()V").s().ops(195) }
		second := func(x *coder) {
			x.here("a")
			c.write(x)
			x.here("b").ops(177).takes("taken", 5).guard("a", "b", "taken", lang+c.want)
		}
		scripts(t, what, w, "1*4=4 3*9=1 3*9=0 4*9=0 2*30="+fmt.Sprint(stepsAlone(t, w, second))+" 2:2 out=5 3*9=0 4*9=0 1*9=4 1:2 4*9=4 4:2 3*9=4 3:2",
			first, second, func(c *coder) { c.s().ops(194).s().ops(195) }, func(c *coder) { c.static("S", "f", "()V") })
	}
}

// The class of a Static one is initialised first, in steps of its own.
func TestSynchronizedNeedsClass(t *testing.T) {
	two := func(c *coder) { c.ops(0, 177) }
	s := newBuilt(t, "S", objectName, open).method(syncStatic, "f", "()V", 1, 0, two).method(api.Static|api.Synchronized, "<clinit>", "()V", 1, 0, func(c *coder) { c.say(1).static("S", "f", "()V").say(2).ops(177) })
	call := func(c *coder) { c.static("S", "f", "()V").say(3) }
	scripts(t, "a class", crowd{others: []*built{s}}, "1*3=3 2*9=0 1*2=2 2*9=0 out=1 1*4=4 out=1,2 2*2=2 1*9=0 2*1=1 1*2=2 2*9=3 2:2 1*9=4 1:2 out=1,2,3,3", call, call)
	fails := newBuilt(t, "S", objectName, open).method(syncStatic, "f", "()V", 1, 0, two).method(api.Static|api.Synchronized, "<clinit>", "()V", 2, 0, func(c *coder) { c.divide().ops(177) })
	scripts(t, "that fails", crowd{others: []*built{fails}}, "1*9=4 1:3/ExceptionInInitializerError 2*9=1 2:3/NoClassDefFoundError", call, call)
}

// 195 within lets go what the call has taken; when the frame is over there is nothing to let go, and another's lock stays so.
func TestSynchronizedLetGoWithin(t *testing.T) {
	of := func(l ...byte) crowd {
		s := newBuilt(t, "S", objectName, open).maker().method(syncOpen, "v", "()V", 2, 1, func(c *coder) { c.ops(l...).ops(0, 177) })
		return crowd{others: []*built{s}, setup: func(c *coder) { c.made("S").member(179, "O", "s", "LS;") }}
	}
	call := func(c *coder) { c.s().virtual("S", "v", "()V") }
	other := func(c *coder) { c.s().ops(194).say(1).s().ops(195) }
	scripts(t, "195", of(42, 195), "1*2=2 2*9=1 1*2=2 2*1=1 3*9=1 1*2=2 1:0 3*9=0 1*9=1 1:2 3*9=0 2*4=4 3*1=1 out=1", call, other, other)
	scripts(t, "195, and nobody takes it", of(42, 195), "1*9=7 1:2 2*9=7 2:2 3*9=7 3:2", call, other, other)
	scripts(t, "195 and 194", of(42, 195, 42, 194), "1*6=6 2*9=1 2*9=0 1*1=1 2*9=0 1*1=1 2*9=6 2:2", call, other)
	scripts(t, "194 alone", of(42, 194), "1*9=7 1:2 2*9=1 2:0 2*9=0", call, other)
	scripts(t, "195 twice", of(42, 195, 42, 195), "1*9=6 1:3/IllegalMonitorStateException 2*9=7 2:2", call, other)
}

// The frame holds the thing whose lock it has, whatever its locals hold; that of a Static one holds nothing.
func TestSynchronizedHolds(t *testing.T) {
	drop := func(c *coder) { c.ops(1, 75, 0).ops(177) }
	s := newBuilt(t, "S", objectName, open).maker().method(syncOpen, "v", "(I)V", 1, 2, drop).method(api.Public, "free", "(I)V", 1, 2, drop).method(syncStatic, "f", "("+anyType+")V", 1, 1, drop)
	for what, c := range map[string]struct {
		write func(c *coder)
		words string
	}{
		"of a thing":   {func(c *coder) { c.made("S").ops(4).virtual("S", "v", "(I)V").ops(0) }, "1*9=9 live=8 1*2=2 live=8 1*1=1 live=8 1*1=1 live=6"},
		"with no lock": {func(c *coder) { c.made("S").ops(4).virtual("S", "free", "(I)V").ops(0) }, "1*9=9 live=8 1*2=2 live=6"},
		"Static":       {func(c *coder) { c.made("S").static("S", "f", "("+anyType+")V").ops(0) }, "1*8=8 live=8 1*2=2 live=6 1*2=2 live=6"},
	} {
		w := crowd{others: []*built{s}, setup: func(c *coder) { c.made("S").ops(87) }}
		scripts(t, what, w, c.words, c.write)
	}
}

// There is no room within a Synchronized method: what is thrown lets its lock go.
func TestSynchronizedWithoutRoom(t *testing.T) {
	s := newBuilt(t, "S", objectName, open).maker().method(syncOpen, "v", "()V", 1, 1, func(c *coder) { c.array(1000).ops(87, 177) })
	w := crowd{Options: Options{100, 20, 5}, others: []*built{s}, setup: func(c *coder) { c.made("S").member(179, "O", "s", "LS;") }}
	call := func(c *coder) { c.s().virtual("S", "v", "()V") }
	scripts(t, "no room", w, "1*3=3 2*9=1 2*9=0 1*1=1 1:3/OutOfMemoryError 2*9=3 2:3/OutOfMemoryError live=8", call, call)
}

// No thread begins with a Synchronized main; it may be called.
func TestSynchronizedMain(t *testing.T) {
	a := newBuilt(t, "A", objectName, open).method(syncStatic, "main", "()V", 0, 0, func(c *coder) { c.ops(0, 177) })
	v := machine(t, usual, a)
	if n, e := v.Start("A"); n != 0 || e != api.ErrNoMethod || v.Threads() != 0 {
		t.Errorf("Start = %d, %d; %d threads", n, e, v.Threads())
	}
	call := func(c *coder) { c.static("A", "main", "()V") }
	scripts(t, "called", crowd{others: []*built{a}}, "1*4=4 2*9=0 1*1=1 2*9=4 2:2", call, call)
}

// Example 6: two threads in one synchronized static method.
func TestExampleOfLocks(t *testing.T) {
	T := runner(t, "T", api.Public, func(c *coder) { c.static("T", "s", "()V") }).method(syncStatic, "s", "()V", 1, 0, func(c *coder) { c.say(1).ops(177) })
	v := started(t, usual, plain(t, 2, 0, func(c *coder) { c.made("T").start().made("T").start() }), T)
	ends(t, v)
	script(t, "example 6", v, "threads=3 1*1=1 2*9=0 1*2=2 2*9=0 1*1=1 2*9=5 2:2 1*9=1 1:2 out=1,1")
}
