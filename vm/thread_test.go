package vm

import (
	"fmt"
	"strings"
	"testing"

	"jvmcore/api"
)

// runner: a class of threads, with run()V of that code, and behind it return.
func runner(t *testing.T, name string, flags uint16, write func(c *coder)) *built {
	return newBuilt(t, name, threadName, open).maker().method(flags, "run", "()V", 4, 2, func(c *coder) {
		write(c)
		c.ops(177)
	})
}

// start, join: of a thing of a class of threads.
func (c *coder) start() *coder { return c.virtual(threadName, "start", "()V") }

func (c *coder) join() *coder { return c.virtual(threadName, "join", "()V") }

// Example 5: a second thread, which goes on only when it is run.
func TestStartThing(t *testing.T) {
	v := started(t, usual, plain(t, 2, 0, func(c *coder) { c.made("T").start().say(1) }), runner(t, "T", api.Public, func(c *coder) { c.say(7) }))
	script(t, "ahead", v, "threads=1 0*10=10 threads=1") // A's frame; T's frame, two steps; new, dup; five of <init>
	script(t, "start", v, "0*1=1 threads=2 0:0 1:0 out= live=4")
	script(t, "the first", v, "0*9=3 0:2 1:0 out=1 live=4")
	script(t, "the second", v, "1*1=1 1:0 out=1 live=4 1*1=1 out=1,7 1:0 1*9=1 1:2 1*9=0 out=1,7 live=2 threads=2")
	if s, why, e := v.Thread(2); s != 0 || why != "" || e != api.ErrIndex || v.Run(2, 9) != 0 {
		t.Errorf("there is no third: %d, %q, %d", s, why, e)
	}
}

// Numbers are those of all threads, in the order in which they began; each goes on by itself.
func TestNumbersOfThreads(t *testing.T) {
	a := newBuilt(t, "A", objectName, open).main(2, 0, func(c *coder) { c.made("T").start().made("U").start().ops(177) })
	l := []*built{a, runner(t, "T", api.Public, func(c *coder) { c.say(7).made("U").start().say(8) }), runner(t, "U", api.Public, func(c *coder) { c.say(9) })}
	v := started(t, usual, l...)
	for v.Threads() < 2 {
		runs(t, "up to T", v, 0, 1, 1)
	}
	startsA(t, "between", v, 2)
	v.Run(0, 99)
	script(t, "U is the next", v, "threads=4 0:2 1:0 2:0 3:0 3*9=3 3:2 out=9")
	v.Run(1, 99)
	script(t, "one by T", v, "threads=5 1:2 4:0 out=9,7,8 4*9=3 4:2 out=9,7,8,9")
	v.Run(2, 99)
	script(t, "two by the other main", v, "threads=7 2:2 5*9=9 5:0 6*2=2 5*1=1 6*9=1 6:2 threads=8 out=9,7,8,9,7,9")
	v.Run(5, 99)
	script(t, "at the end", v, "threads=8 5:2 6:2 7:0 live=4 7*9=3 live=2")
}

// A thing is started once, whatever has become of its thread.
func TestStartedAlready(t *testing.T) {
	again := func(c *coder) {
		c.ops(76, 43).start().ops(0, 43).here("a").start().here("b").ops(177).taker("taken", 5).guard("a", "b", "taken", lang+"IllegalThreadStateException")
	}
	for what, c := range map[string]struct {
		write func(c *coder)
		runs  string
	}{
		"ready":   {func(c *coder) { c.say(7) }, "1:0"},
		"runs":    {func(c *coder) { c.say(7) }, "1*1=1 1:0"},
		"ended":   {func(c *coder) { c.ops(0) }, "1*9=2 1:2"},
		"died":    {func(c *coder) { c.divide() }, "1*9=3 1:3/ArithmeticException"},
		"waits":   {func(c *coder) { c.ops(42, 194, 42).virtual("T", "wait", "()V") }, "1*9=4 1:1"},
		"blocked": {func(c *coder) { c.ops(42).join() }, "1*9=1 1:0"},
	} {
		for _, collect := range []string{"", "young ", "all "} {
			v := started(t, usual, newBuilt(t, "A", objectName, open).main(2, 2, func(c *coder) {
				c.made("T")
				again(c)
			}), runner(t, "T", api.Public, c.write))
			for v.Threads() < 2 {
				v.Run(0, 1)
			}
			script(t, what, v, collect+"0*1=1 "+collect+c.runs+" "+collect+"0*1=1 "+collect+"threads=2 0*1=1 threads=2 0:0 0*9=4 0:2 out=5")
		}
	}
	throws(t, "taken by nobody", "IllegalThreadStateException", func(c *coder) { c.made("T").ops(89).start().start() }, runner(t, "T", api.Public, func(c *coder) { c.say(7) }))
	throws(t, "of none", "NullPointerException", func(c *coder) { c.ops(1).with(192, c.class("T")).start() }, runner(t, "T", api.Public, func(c *coder) { c.say(7) }))
}

// The run()V that is selected; or what is thrown, and then no thread is there, and the thing was not started.
func TestSelectedRun(t *testing.T) {
	seven := func(c *coder) { c.say(7) }
	below := func(above string) *built { return newBuilt(t, "L", above, open).maker() }
	for what, c := range map[string]struct {
		class, want string // 0: that of java/lang/Thread; else what is printed, or thrown
		l           []*built
	}{
		"java/lang/Thread":     {threadName, "0", nil},
		"none of its own":      {"T", "0", []*built{newBuilt(t, "T", threadName, open).maker()}},
		"its own":              {"T", "7", []*built{runner(t, "T", api.Public, seven)}},
		"its own, for few":     {"T", "7", []*built{runner(t, "T", api.Protected|api.Final, seven)}},
		"in a package":         {"q/T", "7", []*built{runner(t, "q/T", 0, seven)}},
		"that above":           {"L", "7", []*built{runner(t, "T", api.Public, seven), below("T")}},
		"that below":           {"L", "8", []*built{runner(t, "T", api.Public, seven), below("T").says(api.Public, "run", "()V", 8)}},
		"Private":              {"T", "0", []*built{runner(t, "T", api.Private, seven)}},
		"Static":               {"T", "0", []*built{newBuilt(t, "T", threadName, open).maker().says(api.Public|api.Static, "run", "()V", 8)}},
		"Private, above it":    {"L", "7", []*built{runner(t, "T", api.Public, seven), below("T").says(api.Private, "run", "()V", 8)}},
		"another":              {"T", "0", []*built{newBuilt(t, "T", threadName, open).maker().says(api.Public, "run", "(I)V", 8).says(api.Public, "Run", "()V", 8)}},
		"Native":               {"T", "UnsatisfiedLinkError", []*built{newBuilt(t, "T", threadName, open).maker().bare(api.Public|api.Native, "run", "()V")}},
		"Synchronized":         {"T", "UnsatisfiedLinkError", []*built{runner(t, "T", api.Public|api.Synchronized, seven)}},
		"both":                 {"T", "UnsatisfiedLinkError", []*built{newBuilt(t, "T", threadName, open).maker().bare(api.Public|api.Native|api.Synchronized, "run", "()V")}},
		"Native above":         {"L", "UnsatisfiedLinkError", []*built{newBuilt(t, "T", threadName, open).maker().bare(api.Public|api.Native, "run", "()V"), below("T")}},
		"Native above its own": {"L", "8", []*built{newBuilt(t, "T", threadName, open).maker().bare(api.Public|api.Native, "run", "()V"), below("T").says(api.Public, "run", "()V", 8)}},
		"Synchronized, Static": {"T", "0", []*built{newBuilt(t, "T", threadName, open).maker().says(api.Public|api.Static|api.Synchronized, "run", "()V", 8)}},
		"Abstract":             {"L", "AbstractMethodError", []*built{newBuilt(t, "T", threadName, open|api.Abstract).maker().bare(api.Public|api.Abstract, "run", "()V"), below("T")}},
		"Abstract above":       {"L", "8", []*built{newBuilt(t, "T", threadName, open|api.Abstract).maker().bare(api.Public|api.Abstract, "run", "()V"), below("T").says(api.Public, "run", "()V", 8)}},
		"Abstract below":       {"L", "AbstractMethodError", []*built{runner(t, "U", api.Public, seven), newBuilt(t, "T", "U", open|api.Abstract).maker().bare(api.Public|api.Abstract, "run", "()V"), below("T")}},
	} {
		if strings.HasSuffix(c.want, "Error") {
			throws(t, what, c.want, func(x *coder) { x.made(c.class).start() }, c.l...)
			a := newBuilt(t, "A", objectName, open).main(2, 1, func(x *coder) {
				x.made(c.class).ops(75, 42).here("a").start().here("b").ops(177).mark("one", []api.VType{obj(c.class)}, throwableT).ops(87).say(1)
				x.ops(42).join().say(2).ops(42).here("c").start().here("d").ops(177).taker("two", 3).guard("a", "b", "one", lang+c.want).guard("c", "d", "two", lang+c.want)
			})
			v := started(t, usual, append([]*built{a}, c.l...)...)
			if got := ends(t, v); got != "1 2 3" || v.Threads() != 1 {
				t.Errorf("%s, again: printed %q, %d threads", what, got, v.Threads())
			}
			continue
		}
		v := started(t, usual, append([]*built{plain(t, 2, 0, func(x *coder) { x.made(c.class).start() })}, c.l...)...)
		ends(t, v)
		if c.want == "0" {
			script(t, what, v, "threads=2 1:0 1*9=1 1:2 out=")
		} else {
			script(t, what, v, "threads=2 1:0 1*9=3 1:2 out="+c.want)
		}
	}
}

// start is a method as others: a class below may have its own, which calls that above or not; an interface may tell it.
func TestStartIsCalled(t *testing.T) {
	t.Run("its own", func(t *testing.T) {
		own := runner(t, "T", api.Public, func(c *coder) { c.say(7) }).says(api.Public, "start", "()V", 5)
		v := started(t, usual, plain(t, 2, 0, func(c *coder) { c.made("T").start() }), own)
		ends(t, v)
		script(t, "no thread", v, "threads=1 out=5")
		throws(t, "a native one of its own", "UnsatisfiedLinkError", func(c *coder) { c.made("T").start() }, runner(t, "T", api.Public, func(c *coder) {}).bare(api.Public|api.Native, "start", "()V"))
	})
	above := runner(t, "T", api.Public, func(c *coder) { c.say(7) }).method(api.Public, "start", "()V", 1, 1, func(c *coder) {
		c.say(5).ops(42).special(threadName, "start", "()V").ops(177)
	})
	face := newBuilt(t, "I", objectName, openFace).bare(api.Public|api.Abstract, "start", "()V").bare(api.Public|api.Abstract, "join", "()V")
	told := newBuilt(t, "U", "T", open, "I").maker()
	for what, write := range map[string]func(c *coder){
		"by 183":      func(c *coder) { c.made("T").start() },
		"of one more": func(c *coder) { c.made("U").start() },
		"by 185":      func(c *coder) { c.made("U").ops(89).face("I", "start", "()V", 1).face("I", "join", "()V", 1) },
	} {
		v := started(t, usual, plain(t, 2, 0, write), above, face, told)
		v.Run(0, 99)
		script(t, what, v, "threads=2 out=5 1*9=3 1:2 out=5,7 0*9="+map[bool]string{true: "2", false: "0"}[what == "by 185"]+" 0:2")
	}
	throws(t, "184 of it", "IncompatibleClassChangeError", func(c *coder) { c.static(threadName, "start", "()V") })
	throws(t, "of what is no thread", "NoSuchMethodError", func(c *coder) { c.made(objectName).virtual(objectName, "start", "()V") })
}

// A thread holds its thing, and what is in its frames, from start on till it is over; nothing else holds them here.
func TestThreadsHold(t *testing.T) {
	for what, c := range map[string]struct {
		write func(c *coder)
		steps string
	}{
		"ended":              {func(c *coder) { c.ops(0) }, "1*1=1 live=13 1*1=1 1:2 live=2"},
		"died":               {func(c *coder) { c.divide() }, "1*2=2 live=13 1*1=1 1:3/ArithmeticException live=2"},
		"no local holds it":  {func(c *coder) { c.ops(1, 75, 0) }, "1*2=2 live=13 1*1=1 live=13 1*1=1 live=2"},
		"more in its frames": {func(c *coder) { c.array(4).ops(75, 42).static("T", "f", "("+anyType+")V") }, "1*5=5 live=19 1*2=2 live=19 1*1=1 live=19 1*1=1 1:2 live=2"},
		"a list dropped":     {func(c *coder) { c.ops(42, 1).member(181, "T", "list", "[I") }, "1*2=2 live=13 1*1=1 live=5 1*1=1 live=2"},
		"waits":              {func(c *coder) { c.ops(42, 194, 42, 1, 75).virtual(objectName, "wait", "()V") }, "1*9=6 1:1 live=13 1*9=0 live=13"},
		"blocked":            {func(c *coder) { c.ops(42, 1, 75).join() }, "1*9=3 1:0 live=13"},
	} {
		for _, collect := range []string{" ", " young ", " all "} {
			T := newBuilt(t, "T", threadName, open).maker().field(0, "list", "[I").method(api.Public, "run", "()V", 4, 2, func(x *coder) {
				c.write(x)
				x.ops(177)
			}).method(api.Static, "f", "("+anyType+")V", 0, 1, func(x *coder) { x.ops(0, 0, 177) })
			v := started(t, usual, plain(t, 4, 0, func(x *coder) { x.made("T").ops(89).array(6).member(181, "T", "list", "[I").start() }), T)
			ends(t, v)
			script(t, what, v, strings.Join(strings.Fields("live=13 1:0 live=13 "+c.steps), collect))
		}
	}
}

// There is no room for what start throws; of a thread itself there always is.
func TestStartWithoutRoom(t *testing.T) {
	T := newBuilt(t, "T", threadName, open).maker()
	decides(t, "started already", "IllegalThreadStateException", plain(t, 2, 1, func(c *coder) { c.array(100).ops(75).made("T").ops(89).start().start() }), T)
	a := plain(t, 2, 1, func(c *coder) { c.array(94).ops(75).made("T").start().say(1) })
	v := started(t, Options{100, 20, 3}, a, T)
	if got := ends(t, v); got != "1" {
		t.Errorf("printed %q", got)
	}
	script(t, "behind it", v, "threads=2 live=4 1*9=1 live=2")
}

// join: as long as a thread that is the thing is neither ended nor died. What it took is on the stack till then.
func TestJoin(t *testing.T) {
	for what, c := range map[string]struct {
		write func(c *coder)
		ahead string // thread 1 up to where it cannot go on, or is ready
		over  string // and to its end
	}{
		"ready": {func(c *coder) { c.say(7) }, "1:0", "1*9=3 1:2"},
		"runs":  {func(c *coder) { c.say(7) }, "1*2=2 1:0", "1*9=1 1:2"},
		"dies":  {func(c *coder) { c.divide() }, "1*2=2 1:0", "1*9=1 1:3/ArithmeticException"},
		"waits": {func(c *coder) { c.ops(42, 194, 42).virtual(objectName, "wait", "()V") }, "1*9=4 1:1", ""},
		"joins": {func(c *coder) { c.ops(42).join() }, "1*9=1 1*9=0", ""},
	} {
		for _, collect := range []string{" ", " young ", " all "} {
			v := started(t, usual, plain(t, 2, 0, func(c *coder) { c.made("T").ops(89).start().join().say(1) }), runner(t, "T", api.Public, c.write))
			for v.Threads() < 2 {
				v.Run(0, 1)
			}
			blocked := " 0*9=0 0:0 0*1=0 0:0 live=4 "
			words := blocked + c.ahead + blocked + c.over
			if c.over != "" {
				words += " live=4 0*1=1 live=2 0*9=3 0:2"
			}
			script(t, what, v, strings.Join(strings.Fields(words), collect))
		}
	}
	prints(t, "of none that was started", "1", plain(t, 2, 0, func(c *coder) { c.made("T").join().made(threadName).join().say(1) }), newBuilt(t, "T", threadName, open).maker())
	throws(t, "of none", "NullPointerException", func(c *coder) { c.ops(1).with(192, c.class(threadName)).join() })
}

// Two threads wait for each other by join, a third for one of them; one whose thing was not started goes on.
func TestJoinOfEachOther(t *testing.T) {
	T := newBuilt(t, "T", threadName, open).maker().field(0, "other", "LT;").method(api.Public, "run", "()V", 2, 1, func(c *coder) {
		c.ops(42).member(180, "T", "other", "LT;").join().say(7).ops(177)
	})
	a := func(crosswise bool) *built {
		return plain(t, 4, 3, func(c *coder) {
			c.made("T").ops(75).made("T").ops(76).made("T").ops(77)
			c.ops(42, 43).member(181, "T", "other", "LT;").ops(43, 44).member(181, "T", "other", "LT;")
			if crosswise {
				c.ops(43, 42).member(181, "T", "other", "LT;")
			}
			c.ops(42).start().ops(43).start().ops(42).join().say(1)
		})
	}
	v := started(t, usual, a(true), T)
	v.Run(0, 99)
	script(t, "crosswise", v, "threads=3 1*9=2 2*9=2 1*9=0 2*9=0 0*9=0 1:0 2:0 0:0 out=")
	v = started(t, usual, a(false), T)
	v.Run(0, 99)
	script(t, "one behind the other", v, "threads=3 1*9=2 0*9=0 2*9=6 2:2 0*9=0 1*9=4 1:2 0*9=4 0:2 out=7,7,1")
}

// yield does nothing, and is a step.
func TestYield(t *testing.T) {
	v := started(t, usual, plain(t, 2, 0, func(c *coder) {
		c.static(threadName, "yield", "()V").static("T", "yield", "()V").say(1)
	}), prompt(t, "T", threadName, 9, nil))
	script(t, "yield", v, "0*1=1 0*1=1 0:0 0*1=1 0:0 threads=1 live=2 0*9=3 0:2 out=1")
	throws(t, "182 of it", "IncompatibleClassChangeError", func(c *coder) { c.made(threadName).virtual(threadName, "yield", "()V") })
}

// Each thread has Depth frames of its own.
func TestDepthOfThreads(t *testing.T) {
	for _, depth := range []int{3, 4, 7} {
		T := runner(t, "T", api.Public, func(c *coder) { c.static("T", "deep", "()V") }).method(api.Static, "deep", "()V", 1, 0, func(c *coder) { c.say(1).static("T", "deep", "()V").ops(177) })
		v := started(t, Options{200, 20, depth}, plain(t, 2, 0, func(c *coder) { c.made("T").start().static("T", "deep", "()V") }), T)
		want := strings.TrimSuffix(strings.Repeat("1,", 2*(depth-1)), ",")
		if why, _ := dies(t, v); why != lang+"StackOverflowError" {
			t.Errorf("died of %s", why)
		}
		v.Run(1, 999)
		script(t, fmt.Sprint("depth ", depth), v, "1:3/StackOverflowError out="+want)
	}
	v := started(t, Options{100, 20, 2}, plain(t, 2, 0, func(c *coder) { c.made(threadName).start() }))
	script(t, "depth 2", v, "0*9=7 0:2 threads=2 1*9=1 1:2")
	v = started(t, Options{100, 20, 2}, newBuilt(t, "A", objectName, open).starts(2, 0, func(c *coder) { c.made(threadName).start() }).main(0, 0, func(c *coder) { c.ops(177) }))
	script(t, "no frame for <init>", v, "0*9=3 0:3/StackOverflowError threads=1")
}

// A thread runs code of a class that another initialises: what needs the class waits, what does not goes on.
func TestStartedByItsClass(t *testing.T) {
	T := newBuilt(t, "T", threadName, open).maker().field(api.Static, "s", "I").says(api.Public, "run", "()V", 7).starts(2, 0, func(c *coder) { c.made("T").start().made("U").start().say(5) })
	U := runner(t, "U", api.Public, func(c *coder) { c.say(8).get("T").say(9) })
	v := started(t, usual, plain(t, 2, 0, func(c *coder) { c.get("T") }), T, U)
	for v.Threads() < 3 {
		runs(t, "<clinit>", v, 0, 1, 1)
	}
	script(t, "meanwhile", v, "1*9=3 1:2 2*9=2 2:0 out=7,8 0*3=3 2*9=5 2:2 out=7,8,5,9 0*9=3 0:2")
	// It fails: its thread goes on, and what needs it does not.
	T = newBuilt(t, "T", threadName, open).maker().field(api.Static, "s", "I").says(api.Public, "run", "()V", 7).starts(2, 0, func(c *coder) { c.made("T").start().made("U").start().divide() })
	v = started(t, usual, plain(t, 2, 0, func(c *coder) { c.get("T") }), T, U)
	v.Run(0, 99)
	script(t, "failed", v, "0:3/ExceptionInInitializerError threads=3 1*9=3 1:2 2*9=3 2:3/NoClassDefFoundError out=7,8")
}

// Nothing but Run makes a thread go on, whatever else is asked of the machine; and no machine hangs on another of the same classes.
func TestRunAlone(t *testing.T) {
	T := runner(t, "T", api.Public, func(c *coder) { c.str("x").ops(194).str("x").virtual(objectName, "wait", "()V").say(7) })
	a := plain(t, 2, 0, func(c *coder) { c.made("T").start().made("T").start() })
	one, other := started(t, usual, a, T), started(t, Options{100, 20, 4}, a, T)
	ends(t, one)
	script(t, "the other is as it was", other, "threads=1 0:0")
	ends(t, other)
	script(t, "one", one, "1*9=4 1:1 2*2=2")
	script(t, "the other", other, "1*2=2 2*9=1 2*9=0 1:0 2:0")
	d := newBuilt(t, "D", objectName, open).main(1, 0, func(c *coder) { c.str("x").ops(194).str("x").virtual(objectName, "notifyAll", "()V").ops(177) })
	for range 3 {
		other.Define(d.bytes())
		other.Live()
		other.Out()
		other.Collect(true)
		other.Collect(false)
		other.Run(-1, 9)
		other.Run(3, 9)
		other.Run(1, 0)
		other.Run(1, -9)
		other.Thread(1)
	}
	other.Start("D")
	script(t, "the other, then", other, "threads=4 1:0 2:0 3:0 2*9=0 3*9=2 3*9=0 1*9=2 1:1 3*9=4 3:2 1*9=0 1:1")
	script(t, "one, then", one, "threads=3 1:1 1*9=0 2*9=2 2:1 out=")
}

// A thread goes in one piece as in pieces: over what it starts, locks that it takes and lets go, and up to where it cannot go on.
func TestPieces(t *testing.T) {
	l := exchanged(t, 2, 3)
	for first := 1; first < 40; first++ {
		whole, pieces := started(t, Options{100, 20, 5}, l...), started(t, Options{100, 60, 5}, l...)
		for turn := 0; turn < 60; turn++ {
			n := turn * first % 5
			went := 0
			for left := first; left > 0; left -= turn%3 + 1 {
				went += pieces.Run(n, min(left, turn%3+1))
			}
			runs(t, fmt.Sprint("in one piece of ", first), whole, n, first, went)
			if whole.Live() != pieces.Live() || whole.Threads() != pieces.Threads() {
				t.Fatalf("pieces of %d, turn %d: %d and %d words", first, turn, whole.Live(), pieces.Live())
			}
			for n := range whole.Threads() {
				s, why, _ := whole.Thread(n)
				threadIs(t, "in pieces", pieces, n, s, why)
			}
		}
		outIs(t, "in pieces", pieces, strings.Join(whole.Out(), " "))
	}
}
