package vm

import (
	"fmt"
	"testing"

	"jvmcore/api"
)

// A lock is had till it was let go as often as it was taken, wherever the thing is moved to; others cannot go on till then.
func TestLocks(t *testing.T) {
	get := func(c *coder) *coder { return c.member(178, "A", "o", anyType) }
	first := newBuilt(t, "A", objectName, open).field(api.Static, "o", anyType).main(2, 0, func(c *coder) {
		c.made(objectName).member(179, "A", "o", anyType)
		get(c).ops(194)
		get(c).ops(194).say(1)
		get(c).ops(195).say(2)
		get(c).ops(195).say(3).ops(177)
	})
	second := newBuilt(t, "B", objectName, open).main(2, 0, func(c *coder) {
		get(c).ops(194).say(4)
		get(c).ops(195)
		get(c).here("a").ops(195).here("b").ops(177).taker("taken", 5).guard("a", "b", "taken", lang+"IllegalMonitorStateException")
	})
	v := started(t, usual, first, second)
	v.Start("B")
	step := func(want int) {
		t.Helper()
		v.Collect(true)
		runs(t, "the first", v, 0, 1, 1)
		runs(t, "the second", v, 1, 1, want)
		threadIs(t, "the second", v, 1, 0, "")
	}
	runs(t, "the first", v, 0, 1+4+1+2, 8) // return of its class's frame, and up to the first 194
	runs(t, "the second", v, 1, 9, 2)      // and its own, and up to 194
	for range 2 + 2 + 2 + 2 + 1 {          // 194 once more, 1; 195, 2; up to the last 195
		step(0)
	}
	outIs(t, "ahead of it", v, "1 2")
	step(1)
	for range 2 {
		step(1)
	}
	outIs(t, "behind it", v, "1 2 3 4")
	runs(t, "the first", v, 0, 9, 1)
	runs(t, "the second", v, 1, 99, 8)
	threadIs(t, "the second", v, 1, 2, "")
	outIs(t, "at the end", v, "1 2 3 4 5")
}

// The lock of another thread cannot be let go, and does not hold the thing.
func TestLocksOfOthers(t *testing.T) {
	a := newBuilt(t, "A", objectName, open).field(api.Static, "o", anyType).main(2, 0, func(c *coder) {
		c.array(5).ops(89, 194).member(179, "A", "o", anyType).ops(0, 0, 177)
	})
	b := newBuilt(t, "B", objectName, open).main(2, 0, func(c *coder) { c.member(178, "A", "o", anyType).ops(195, 177) })
	c := newBuilt(t, "C", objectName, open).main(2, 0, func(c *coder) { c.ops(1).member(179, "A", "o", anyType).ops(177) })
	v := started(t, usual, a, b, c)
	ends(t, v)
	v.Start("B")
	v.Run(1, 9)
	threadIs(t, "of another", v, 1, 3, lang+"IllegalMonitorStateException")
	if n := v.Live(); n != 2+7 {
		t.Errorf("%d words", n)
	}
	v.Start("C")
	v.Run(2, 9)
	if n := v.Live(); n != 2 {
		t.Errorf("%d words, when only its lock is had", n)
	}
}

// A lock is one's own as often as it was taken; of another's the instruction comes again, with what it took still on the stack.
func TestLockTimes(t *testing.T) {
	for times := 1; times <= 4; times++ {
		first := func(c *coder) {
			for range times {
				c.enter()
			}
			for range times {
				c.exit()
			}
			c.here("a").exit().here("b").ops(177).takes("taken", 5).guard("a", "b", "taken", lang+"IllegalMonitorStateException")
		}
		second := func(c *coder) { c.made(objectName).ops(75, 42, 194).enter().exit().ops(42, 195) }
		words := fmt.Sprintf("1*%d=%[1]d live=6 2*99=8 2:0 live=8 2*99=0 2:0 live=8 ", 2*times)
		for range times {
			words += "2*1=0 1*1=1 2*1=0 1*1=1 "
		}
		words += "2*1=1 live=8 1*1=1 1*1=1 1:0 2*2=2 1*9=4 1:2 out=5 2*9=3 2:2 live=6"
		scripts(t, fmt.Sprint(times, " times"), crowd{}, words, first, second)
	}
}

// What is wrong, where several things could be: 194 and 195 of none; 195 of nobody's lock, and of another's, which stays so.
func TestLockErrors(t *testing.T) {
	other := func(c *coder) { c.enter().ops(0).exit() }
	for what, c := range map[string]struct {
		want  string
		write func(c *coder)
	}{
		"194 of none":                    {"NullPointerException", func(c *coder) { c.ops(1, 194) }},
		"195 of none":                    {"NullPointerException", func(c *coder) { c.ops(1, 195) }},
		"195 of nobody's":                {"IllegalMonitorStateException", func(c *coder) { c.p().ops(195) }},
		"195 of another":                 {"IllegalMonitorStateException", func(c *coder) { c.o().ops(195) }},
		"195 of an array":                {"IllegalMonitorStateException", func(c *coder) { c.array(4).ops(195) }},
		"195 of a text":                  {"IllegalMonitorStateException", func(c *coder) { c.str("").ops(195) }},
		"195 of another, with one's own": {"IllegalMonitorStateException", func(c *coder) { c.p().ops(194).o().ops(195) }},
	} {
		v := crowd{}.begun(t, other, c.write, func(c *coder) { c.enter().say(1) })
		script(t, what, v, "1*2=2 3*9=1 3*9=0")
		v.Run(2, 9)
		script(t, what, v, "2:3/"+c.want+" 3*9=0 1*3=3 3*9=4 out=1")
	}
}

// The locks of two things are two; each goes with its thing, of whatever kind.
func TestLocksOfThings(t *testing.T) {
	for what, write := range map[string]func(c *coder){
		"a thing":        func(c *coder) { c.p() },
		"an array":       func(c *coder) { c.array(3) },
		"of things":      func(c *coder) { c.ops(3).with(189, c.class("S")) },
		"another text":   func(c *coder) { c.str("y") },
		"a text like it": func(c *coder) { c.str("").str("x").ofText("concat") },
		"what is thrown": func(c *coder) { c.made(lang + "Error") },
		"a thread's":     func(c *coder) { c.made(threadName) },
		"nobody's":       func(c *coder) { c.made(objectName) },
	} {
		first := func(c *coder) { c.o().ops(194).str("x").ops(194).made(objectName).ops(194) }
		second := func(c *coder) {
			write(c)
			c.ops(89, 194, 89, 194, 89, 195, 195).say(2)
		}
		v := crowd{others: []*built{newBuilt(t, "S", objectName, open)}}.begun(t, first, second)
		v.Run(1, 99)
		v.Run(2, 99)
		script(t, what, v, "1:2 2:2 out=2")
	}
	v := crowd{}.begun(t, func(c *coder) { c.str("x").ops(194) }, func(c *coder) { c.str("x").ops(194).say(2) }, func(c *coder) { c.str("").str("x").ofText("concat").ofText("intern").ops(194).say(3) })
	script(t, "a text of the pool is one thing", v, "1*9=3 1:2 2*9=1 3*9=4 2*9=0 3*9=0 out=")
}

// Who has ended or died with a lock has it for ever.
func TestLocksOfTheDead(t *testing.T) {
	second := func(c *coder) { c.p().ops(194).say(2).enter().say(3) }
	third := func(c *coder) {
		c.o().here("a").ops(195).here("b").ops(177).takes("taken", 4).guard("a", "b", "taken", lang+"IllegalMonitorStateException")
	}
	scripts(t, "ended", crowd{}, "1*9=3 1:2 2*9=5 3*9=6 3:2 2*9=0 2:0 out=2,4 live=6", func(c *coder) { c.enter() }, second, third)
	scripts(t, "died", crowd{}, "1*9=5 1:3/ArithmeticException 2*9=5 3*9=6 3:2 2*9=0 2:0 out=2,4 live=6", func(c *coder) { c.enter().divide() }, second, third)
}

// A lock does not hold its thing; a thread that waits for it does, as it is on its stack.
func TestLocksHoldNothing(t *testing.T) {
	drop := func(c *coder) { c.ops(1).member(179, "O", "o", anyType) }
	scripts(t, "dropped", crowd{}, "live=6 1*2=2 live=6 2*2=2 live=4 1*9=1 live=4", func(c *coder) { c.enter() }, drop)
	scripts(t, "on a stack", crowd{}, "1*3=3 2*9=1 3*2=2 live=6 2*9=0 live=6 1*2=2 2*9=0 1*1=1 live=6 2*1=1 live=4 2*9=2 2:2",
		func(c *coder) { c.o().ops(89, 194, 0, 0, 195) }, func(c *coder) { c.o().ops(194, 0) }, drop)
}

// No room for what 195 throws, and none while a lock is held: it is held on.
func TestLocksWithoutRoom(t *testing.T) {
	first := func(c *coder) {
		c.enter().here("a").array(1000).here("b").ops(87, 177).mark("taken", nil, throwableT).ops(87).say(1).exit().guard("a", "b", "taken", lang+"OutOfMemoryError")
	}
	scripts(t, "an array", crowd{Options: Options{100, 20, 5}}, "1*3=3 2*9=1 1*1=1 2*9=0 live=6 1*4=4 2*9=0 out=1 1*1=1 2*9=2 2:2", first, func(c *coder) { c.enter() })
	full := func(c *coder) {
		c.array(92).ops(75).here("a").exit().here("b").ops(177).mark("taken", nil, throwableT).ops(87, 1, 75).say(5).guard("a", "b", "taken", lang+"OutOfMemoryError")
	}
	scripts(t, "what 195 throws", crowd{Options: Options{100, 20, 5}}, "1*3=3 live=100 1*2=2 1:0 live=100 1*3=3 live=6 1*9=3 1:2 out=5", full)
}
