package vm

import (
	"strings"
	"testing"

	"jvmcore/api"
)

// startsA: main of class A, as thread n.
func startsA(t *testing.T, what string, v *VM, n int) {
	t.Helper()
	if got, e := v.Start("A"); got != n || e != api.OK {
		t.Fatalf("%s: Start = %d, %d, want %d", what, got, e, n)
	}
}

// guardedAt: class A whose main prints 5, and has handlers of classes from its first place on, or from the second on; the k-th of them prints k.
func guardedAt(t *testing.T, from string, classes ...string) *built {
	return newBuilt(t, "A", objectName, open).main(1, 0, func(c *coder) {
		c.here("first").ops(0).here("second").say(5).ops(177).here("end")
		for k, class := range classes {
			mark := "taken" + string(rune('a'+k))
			c.taker(mark, byte(k)).guard(from, "end", mark, class)
		}
	})
}

// A class has failed, in whatever way: Start throws, ahead of any step, each time.
func TestStartOfFailed(t *testing.T) {
	say := func(c *coder) { c.say(5).ops(177) }
	long := strings.Repeat("x", 97)
	texts := newBuilt(t, "A", objectName, open).main(1, 0, say)
	texts.valued(api.Static, "t", textType, texts.stringRef(long))
	wrong := newBuilt(t, "W", objectName, open).method(api.Static, "x", "()V", 0, 0, func(c *coder) { c.ops(87, 177) })
	for what, c := range map[string]struct {
		depth int
		first string // the class whose main makes that A fails
		why   string // what its thread died of
		l     []*built
	}{
		"an Error":        {9, "A", "G", []*built{newBuilt(t, "A", objectName, open).main(1, 0, say).starts(2, 0, func(c *coder) { c.throwNew("G").mark("end", nil) })}},
		"no Error":        {9, "A", lang + "ExceptionInInitializerError", []*built{newBuilt(t, "A", objectName, open).main(1, 0, say).starts(2, 0, func(c *coder) { c.divide() })}},
		"what is above":   {9, "A", lang + "ExceptionInInitializerError", []*built{newBuilt(t, "A", "T", open).main(1, 0, say), prompt(t, "T", objectName, 1, func(c *coder) { c.divide() })}},
		"a wrong above":   {9, "A", lang + "VerifyError", []*built{newBuilt(t, "A", "W", open).main(1, 0, say), wrong}},
		"too deep above":  {2, "A", lang + "StackOverflowError", []*built{newBuilt(t, "A", "T", open).main(1, 0, say), prompt(t, "T", objectName, 1, nil)}},
		"no room":         {9, "A", lang + "OutOfMemoryError", []*built{texts}},
		"by code":         {9, "D", lang + "ExceptionInInitializerError", []*built{newBuilt(t, "A", objectName, open).field(api.Static, "s", "I").main(1, 0, say).starts(2, 0, func(c *coder) { c.divide() })}},
		"no room by code": {9, "D", lang + "OutOfMemoryError", []*built{texts.field(api.Static, "s", "I")}},
	} {
		d := newBuilt(t, "D", objectName, open).main(1, 0, func(c *coder) { c.get("A").ops(177) })
		v := machine(t, Options{100, 20, c.depth}, append(append(errorClasses(t), d), c.l...)...)
		if n, e := v.Start(c.first); n != 0 || e != api.OK {
			t.Fatalf("%s: Start of %s = %d, %d", what, c.first, n, e)
		}
		v.Run(0, 99)
		threadIs(t, what, v, 0, 3, c.why)
		out := list(v.Out()...)
		for n := 1; n < 4; n++ {
			startsA(t, what, v, n)
			threadIs(t, what+", ahead", v, n, 3, lang+"NoClassDefFoundError")
			runs(t, what, v, n, 9, 0)
			threadIs(t, what+", behind", v, n, 3, lang+"NoClassDefFoundError")
			if v.Live() != 2 || v.Threads() != n+1 {
				t.Errorf("%s: %d words, %d threads", what, v.Live(), v.Threads())
			}
		}
		outIs(t, what, v, out)
		threadIs(t, what, v, 0, 3, c.why)
	}
}

// A handler of main that has its first place in reach takes what Start throws: the thread is ready, and its first step is at the target.
func TestStartOfFailedTaken(t *testing.T) {
	const none = lang + "NoClassDefFoundError"
	for _, c := range []struct {
		from, classes string // with spaces between; Any: of any
		taken         string // empty: by no handler
	}{
		{"first", "", ""}, {"first", none, "0"}, {"first", "Any", "0"}, {"first", lang + "LinkageError", "0"}, {"first", lang + "Error", "0"}, {"first", throwable, "0"},
		{"first", lang + "Exception", ""}, {"first", lang + "VirtualMachineError", ""}, {"first", lang + "VerifyError " + none, "1"}, {"first", "Any " + none, "0"},
		{"first", lang + "Exception " + lang + "VirtualMachineError Any", "2"}, {"second", "Any", ""}, {"second", none, ""},
	} {
		what := c.from + ": " + c.classes
		classes := strings.Fields(c.classes)
		for k, class := range classes {
			classes[k] = strings.TrimPrefix(class, "Any")
		}
		a := guardedAt(t, c.from, classes...).starts(2, 0, func(c *coder) { c.throwNew("G").mark("end", nil) })
		d := newBuilt(t, "D", objectName, open).main(1, 0, func(c *coder) { c.get("A").ops(177) })
		v := machine(t, usual, append(errorClasses(t), a.field(api.Static, "s", "I"), d)...)
		v.Start("D")
		v.Run(0, 99)
		threadIs(t, what, v, 0, 3, "G")
		startsA(t, what, v, 1)
		if c.taken == "" {
			threadIs(t, what, v, 1, 3, none)
			runs(t, what, v, 1, 9, 0)
			outIs(t, what, v, "")
			continue
		}
		threadIs(t, what, v, 1, 0, "")
		if v.Live() != 4 { // what was thrown is on the stack
			t.Errorf("%s: %d words ahead of any step", what, v.Live())
		}
		runs(t, what, v, 1, 1, 1)
		if v.Live() != 2 {
			t.Errorf("%s: %d words behind the first step", what, v.Live())
		}
		runs(t, what, v, 1, 9, 3)
		threadIs(t, what, v, 1, 2, "")
		outIs(t, what, v, c.taken)
	}
}

// The text of a class had no room at an earlier Start: the class has failed, though there is room for all now.
func TestStartOfFailedWithRoom(t *testing.T) {
	a := guardedAt(t, "first", lang+"VirtualMachineError", lang+"NoClassDefFoundError")
	a.valued(api.Static, "t", textType, a.stringRef("ten units."))
	d := newBuilt(t, "D", objectName, open).main(1, 1, func(c *coder) { c.array(87).ops(75, 177) })
	v := started(t, Options{100, 20, 5}, d, a)
	runs(t, "the array", v, 0, 4, 4) // the class, the number, the array, into the local
	startsA(t, "no room", v, 1)
	runs(t, "no room", v, 1, 9, 4)
	threadIs(t, "no room", v, 1, 2, "")
	outIs(t, "no room", v, "0")
	ends(t, v)
	if v.Live() != 2 {
		t.Errorf("%d words", v.Live())
	}
	startsA(t, "room", v, 2)
	threadIs(t, "room", v, 2, 0, "")
	runs(t, "room", v, 2, 9, 4)
	threadIs(t, "room", v, 2, 2, "")
	outIs(t, "room", v, "0 1")
	if v.Live() != 2 {
		t.Errorf("%d words at the end", v.Live())
	}
}

// If there is no room for what Start throws, it is the OutOfMemoryError that was made first of all.
func TestStartOfFailedNoRoom(t *testing.T) {
	for less, taken := range []string{"1", "0"} {
		for _, handled := range []bool{true, false} {
			a := guardedAt(t, "first", lang+"OutOfMemoryError", lang+"NoClassDefFoundError")
			why := lang + []string{"NoClassDefFoundError", "OutOfMemoryError"}[less]
			if !handled {
				a = guardedAt(t, "second", "")
			}
			a.field(api.Static, "s", "I").starts(2, 0, func(c *coder) { c.divide() })
			d := newBuilt(t, "D", objectName, open).main(2, 1, func(c *coder) {
				c.here("a").get("A").here("b").ops(177).mark("taken", nil, throwableT).ops(87).array(94+less).ops(75, 0, 177).guard("a", "b", "taken", "")
			})
			v := started(t, Options{100, 20, 5}, d, a)
			for v.Live() < 98+less {
				runs(t, "the array", v, 0, 1, 1)
			}
			startsA(t, why, v, 1)
			if got, want := v.Live(), 98+less+map[bool]int{true: 2}[handled && less == 0]; got != want {
				t.Errorf("%s: %d words, want %d", why, got, want)
			}
			if handled {
				threadIs(t, why, v, 1, 0, "")
				runs(t, why, v, 1, 9, 4)
				outIs(t, why, v, taken)
			} else {
				threadIs(t, why, v, 1, 3, why)
				runs(t, why, v, 1, 9, 0)
			}
			ends(t, v)
		}
	}
}

// A class fails while threads that were started meanwhile cannot go on: what they throw is a step of each; what Start throws later is none.
func TestFailsMeanwhile(t *testing.T) {
	const none = lang + "NoClassDefFoundError"
	for _, handled := range []bool{false, true} {
		from := map[bool]string{false: "second", true: "first"}[handled]
		a := guardedAt(t, from, none).starts(2, 0, func(c *coder) { c.throwNew("G").mark("end", nil) })
		v := started(t, usual, append([]*built{a}, errorClasses(t)...)...)
		startsA(t, "meanwhile", v, 1)
		runs(t, "the first", v, 0, 2, 2) // G has a frame, and is done
		startsA(t, "meanwhile", v, 2)
		for n := 1; n < 3; n++ {
			runs(t, "meanwhile", v, n, 9, 0)
			threadIs(t, "meanwhile", v, n, 0, "")
		}
		v.Run(0, 99)
		threadIs(t, "the first", v, 0, 3, "G")
		startsA(t, "later", v, 3)
		for n := 1; n < 4; n++ {
			steps := 1
			if n == 3 {
				steps = 0
			} else {
				threadIs(t, "ahead", v, n, 0, "")
			}
			if !handled {
				runs(t, "thrown", v, n, 9, steps)
				threadIs(t, "thrown", v, n, 3, none)
				continue
			}
			runs(t, "thrown", v, n, steps, steps)
			threadIs(t, "thrown", v, n, 0, "")
			if got, want := v.Live(), 2+2+2*steps; got != want { // that of the last is on its stack all along
				t.Errorf("thread %d: %d words, want %d", n, got, want)
			}
			runs(t, "taken", v, n, 9, 4)
			threadIs(t, "taken", v, n, 2, "")
		}
		outIs(t, "meanwhile", v, map[bool]string{false: "", true: "0 0 0"}[handled])
		if v.Live() != 2 {
			t.Errorf("%d words at the end", v.Live())
		}
	}
}
