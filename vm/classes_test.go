package vm

import (
	"math"
	"strings"
	"testing"

	"jvmcore/api"
)

// prompt: a class whose <clinit> prints a number, ahead of other code; with a static field s of I, and f()V that does nothing.
func prompt(t *testing.T, name, super string, n byte, more func(c *coder)) *built {
	b := newBuilt(t, name, super, open).maker().field(api.Static, "s", "I").method(api.Static, "f", "()V", 0, 0, func(c *coder) { c.ops(177) })
	return b.starts(4, 2, func(c *coder) {
		c.say(n)
		if more != nil {
			more(c)
		}
	})
}

// get: the static field s of a prompt, dropped.
func (c *coder) get(class string) *coder { return c.member(178, class, "s", "I").ops(87) }

// needs: the four instructions that need a class.
func needs(class string) map[string]func(c *coder) {
	return map[string]func(c *coder){
		"178": func(c *coder) { c.get(class) },
		"179": func(c *coder) { c.ops(4).member(179, class, "s", "I") },
		"184": func(c *coder) { c.static(class, "f", "()V") },
		"187": func(c *coder) { c.with(187, c.class(class)).ops(87) },
	}
}

// threadIs: its state, and what it died of.
func threadIs(t *testing.T, what string, v *VM, n, state int, why string) {
	t.Helper()
	if s, x, e := v.Thread(n); s != state || x != why || e != api.OK {
		t.Errorf("%s: thread %d: %d, %q, %d, want %d, %q", what, n, s, x, e, state, why)
	}
}

// outIs: what was printed.
func outIs(t *testing.T, what string, v *VM, want string) {
	t.Helper()
	if got := strings.Join(v.Out(), " "); got != want {
		t.Errorf("%s: printed %q, want %q", what, got, want)
	}
}

// runs: a thread by so many steps, if it can go on.
func runs(t *testing.T, what string, v *VM, n, steps, want int) {
	t.Helper()
	if got := v.Run(n, steps); got != want {
		t.Errorf("%s: thread %d went %d steps, want %d", what, n, got, want)
	}
}

// No other instruction makes that a class is initialised, nor does a handler that is looked at.
func TestNotNeeded(t *testing.T) {
	b := prompt(t, "B", objectName, 1, nil).field(0, "i", "I").method(api.Public, "m", "()V", 0, 1, func(c *coder) { c.ops(177) })
	e := prompt(t, "E", lang+"Exception", 2, nil)
	face := newBuilt(t, "I", objectName, openFace).bare(api.Public|api.Abstract, "m", "()V").field(api.Public|api.Static|api.Final, "k", "I").starts(1, 0, func(c *coder) { c.say(3) })
	low := newBuilt(t, "L", objectName, open, "I").maker().field(api.Static, "own", "I").method(api.Public, "m", "()V", 0, 1, func(c *coder) { c.ops(177) })
	for what, write := range map[string]func(c *coder){
		"180":                        func(c *coder) { c.ops(1).member(180, "B", "i", "I").ops(87) },
		"181":                        func(c *coder) { c.ops(1, 4).member(181, "B", "i", "I") },
		"182":                        func(c *coder) { c.ops(1).virtual("B", "m", "()V") },
		"185":                        func(c *coder) { c.made("L").face("I", "m", "()V", 1) },
		"189":                        func(c *coder) { c.ops(4).with(189, c.class("B")).ops(87) },
		"192":                        func(c *coder) { c.made(objectName).with(192, c.class("B")).ops(87) },
		"193":                        func(c *coder) { c.made(objectName).with(193, c.class("B")).ops(87) },
		"197":                        func(c *coder) { c.ops(4, 4).with(197, c.class("[[LB;")).ops(2, 87) },
		"what class has":             func(c *coder) { c.member(178, "L", "own", "I").ops(87) },
		"what an interface is asked": func(c *coder) { c.made("L").with(193, c.class("I")).ops(87) },
		"a handler":                  func(c *coder) { c.divide() },
		"a final field of another":   func(c *coder) { c.ops(4).member(179, "I", "k", "I") },
	} {
		a := newBuilt(t, "A", objectName, open).main(4, 0, func(c *coder) {
			c.here("from")
			write(c)
			c.here("to").ops(177).taker("never", 7).taker("any", 5).guard("from", "to", "never", "E").guard("from", "to", "any", "")
		})
		v := started(t, usual, a, b, e, face, low)
		if got := ends(t, v); got != "" && got != "5" {
			t.Errorf("%s: printed %q", what, got)
		}
	}
}

// By this thread: in its own <clinit>, and where two classes need each other.
func TestNeededMeanwhile(t *testing.T) {
	for op, write := range needs("B") {
		b := prompt(t, "B", objectName, 1, write)
		prints(t, op+" in its own <clinit>", "1 9", plain(t, 2, 0, func(c *coder) { c.get("B").say(9) }), b)
	}
	for op, write := range needs("B") {
		b, d := prompt(t, "B", objectName, 1, func(c *coder) { c.get("D").say(3) }), prompt(t, "D", objectName, 2, write)
		prints(t, op+" of each other", "1 2 3 9", plain(t, 2, 0, func(c *coder) { c.get("B").get("D").say(9) }), b, d)
		prints(t, op+" of each other, from the other", "2 1 3 9", plain(t, 2, 0, func(c *coder) { c.get("D").get("B").say(9) }), b, d)
	}
	// What is above needs what is below.
	low := prompt(t, "Low", "High", 2, nil)
	high := prompt(t, "High", objectName, 1, func(c *coder) { c.get("Low").say(3) })
	prints(t, "from below", "1 3 2 9", plain(t, 2, 0, func(c *coder) { c.get("Low").say(9) }), low, high)
	prints(t, "from above", "1 2 3 9", plain(t, 2, 0, func(c *coder) { c.get("High").say(9) }), low, high)
}

// By another thread: this one cannot go on.
func TestNeededElsewhere(t *testing.T) {
	for op, write := range needs("B") {
		a, d := plain(t, 2, 0, write), newBuilt(t, "D", objectName, open).main(2, 0, func(c *coder) {
			write(c)
			c.say(8).ops(177)
		})
		v := started(t, usual, a, d, prompt(t, "B", objectName, 1, nil))
		v.Start("D")
		before := 1 // the class of main
		if op == "179" {
			before++
		}
		runs(t, op, v, 1, before, before)
		runs(t, op, v, 0, before+1, before+1) // B is initialised by the first
		live := v.Live()
		for range 3 {
			runs(t, op, v, 1, 100, 0)
			threadIs(t, op, v, 1, 0, "")
		}
		if v.Live() != live {
			t.Errorf("%s: %d words, %d ahead", op, v.Live(), live)
		}
		runs(t, op, v, 0, 2, 2)
		runs(t, op, v, 1, 100, 0)
		outIs(t, op, v, "1")
		runs(t, op, v, 0, 1, 1) // B is done
		v.Run(1, 100)
		threadIs(t, op, v, 1, 2, "")
		threadIs(t, op, v, 0, 0, "")
		outIs(t, op, v, "1 8")
		ends(t, v)
	}
}

// Each of two threads initialises a class that the other needs: none can go on any more.
func TestNeededCrosswise(t *testing.T) {
	a, d := plain(t, 1, 0, func(c *coder) { c.get("X") }), newBuilt(t, "D", objectName, open).main(1, 0, func(c *coder) { c.get("Y").ops(177) })
	v := started(t, usual, a, d, prompt(t, "X", objectName, 1, func(c *coder) { c.get("Y") }), prompt(t, "Y", objectName, 2, func(c *coder) { c.get("X") }))
	v.Start("D")
	runs(t, "the first", v, 0, 4, 4)
	runs(t, "the second", v, 1, 9, 4)
	runs(t, "the first again", v, 0, 9, 0)
	runs(t, "the second again", v, 1, 9, 0)
	outIs(t, "crosswise", v, "1 2")
}

// What is above is initialised by another thread: the frame is there, its first instruction waits.
func TestAboveElsewhere(t *testing.T) {
	for fails, write := range map[bool]func(c *coder){false: nil, true: func(c *coder) { c.divide() }} {
		a, d := plain(t, 1, 0, func(c *coder) { c.get("High") }), newBuilt(t, "D", objectName, open).main(1, 0, func(c *coder) { c.get("Low").say(8).ops(177) })
		v := started(t, usual, a, d, prompt(t, "High", objectName, 1, write), prompt(t, "Low", "High", 2, nil))
		v.Start("D")
		runs(t, "the first", v, 0, 2, 2)
		runs(t, "the second", v, 1, 9, 2) // its class, and the frame for Low
		v.Run(0, 99)
		if fails {
			threadIs(t, "the first", v, 0, 3, lang+"ExceptionInInitializerError")
			runs(t, "the second", v, 1, 9, 1)
			threadIs(t, "the second", v, 1, 3, lang+"NoClassDefFoundError")
			outIs(t, "above", v, "1")
			v.Start("D")
			runs(t, "the third", v, 2, 9, 1)
			threadIs(t, "the third", v, 2, 3, lang+"NoClassDefFoundError")
		} else {
			runs(t, "the second", v, 1, 9, 8)
			outIs(t, "above", v, "1 2 8")
		}
	}
}

// A class that has failed is none any more, for whichever instruction, and for what is below it.
func TestFailed(t *testing.T) {
	for _, class := range []string{"B", "L"} {
		for op, write := range needs(class) {
			a := newBuilt(t, "A", objectName, open).main(2, 0, func(c *coder) {
				c.here("a").get("B").here("b").ops(177).mark("one", nil, obj(lang+"ExceptionInInitializerError")).ops(87).say(5).here("c")
				write(c)
				c.here("d").ops(177).mark("two", nil, obj(lang+"NoClassDefFoundError")).ops(87).say(6).here("e")
				write(c)
				c.here("f").ops(177).taker("three", 7)
				c.guard("a", "b", "one", lang+"ExceptionInInitializerError").guard("c", "d", "two", lang+"NoClassDefFoundError").guard("e", "f", "three", lang+"NoClassDefFoundError")
			})
			b := prompt(t, "B", objectName, 1, func(c *coder) { c.divide() })
			prints(t, op+" of "+class, "1 5 6 7", a, b, newBuilt(t, "L", "B", open).maker().field(api.Static, "s", "I").method(api.Static, "f", "()V", 0, 0, func(c *coder) { c.ops(177) }))
		}
	}
}

// Main's class fails: the thread dies of it, those that wait of another error, in a step, those that are started later of that at once.
func TestMainFails(t *testing.T) {
	a := newBuilt(t, "A", objectName, open).main(1, 0, func(c *coder) { c.say(5).ops(177) }).starts(3, 1, func(c *coder) { c.array(9).ops(75).divide() })
	v := started(t, usual, a)
	v.Start("A")
	runs(t, "the second", v, 1, 9, 0)
	runs(t, "the first", v, 0, 9, 6)
	threadIs(t, "the first", v, 0, 3, lang+"ExceptionInInitializerError")
	threadIs(t, "the second", v, 1, 0, "")
	if n, e := v.Start("A"); n != 2 || e != api.OK {
		t.Errorf("Start = %d, %d", n, e)
	}
	threadIs(t, "the third", v, 2, 3, lang+"NoClassDefFoundError")
	runs(t, "the third", v, 2, 9, 0)
	threadIs(t, "ahead", v, 1, 0, "")
	runs(t, "behind", v, 1, 9, 1)
	threadIs(t, "behind", v, 1, 3, lang+"NoClassDefFoundError")
	if v.Live() != 2 || len(v.Out()) != 0 {
		t.Errorf("%d words, printed %q", v.Live(), v.Out())
	}
}

// What is thrown for main's class is thrown at main's first place, where handlers of main may take it.
func TestMainTakes(t *testing.T) {
	for class, taken := range map[string]string{lang + "ExceptionInInitializerError": "9 -", lang + "NoClassDefFoundError": "- 9", lang + "LinkageError": "9 9", "": "9 9", lang + "Exception": "- -"} {
		a := guarded(t, 1, 0, class, func(c *coder) { c.say(5) }).starts(2, 0, func(c *coder) { c.divide() })
		v := started(t, usual, a)
		v.Start("A")
		runs(t, class, v, 0, 3, 3)
		var got []string
		for n, why := range []string{"ExceptionInInitializerError", "NoClassDefFoundError"} {
			if n == 1 {
				runs(t, class, v, n, 1, 1)
			}
			lines := len(v.Out())
			if v.Run(n, 99) == 4 {
				got = append(got, strings.Join(v.Out()[lines:], " "))
				threadIs(t, class, v, n, 2, "")
			} else {
				got = append(got, "-")
				threadIs(t, class, v, n, 3, lang+why)
			}
		}
		if list(got...) != taken {
			t.Errorf("%q: %v, want %s", class, got, taken)
		}
	}
	behind := newBuilt(t, "A", objectName, open).main(1, 0, func(c *coder) {
		c.ops(0).here("a").say(5).here("b").ops(177).taker("taken", 9).guard("a", "b", "taken", "")
	}).starts(2, 0, func(c *coder) { c.divide() })
	if why, n := dies(t, started(t, usual, behind)); why != lang+"ExceptionInInitializerError" || n != 3 {
		t.Errorf("the first place out of reach: died of %s in %d steps", why, n)
	}
}

// A class is verified ahead of all else, each time till that is well.
func TestVerifiedFirst(t *testing.T) {
	for op, write := range needs("B") {
		b := prompt(t, "B", objectName, 1, nil).method(api.Static, "g", "()V", 2, 0, func(c *coder) {
			c.here("a").ops(177).mark("b", nil, throwableT).ops(191).guard("a", "b", "b", "Late")
		})
		v := started(t, usual, guarded(t, 2, 0, lang+"NoClassDefFoundError", func(c *coder) {
			write(c)
			c.say(5)
		}), b)
		v.Start("A")
		v.Start("A")
		ends(t, v)
		v.Run(1, 99)
		outIs(t, op, v, "9 9")
		if _, e := v.Define(newBuilt(t, "Late", lang+"Error", open).bytes()); e != api.OK {
			t.Fatalf("Define = %d", e)
		}
		v.Run(2, 99)
		threadIs(t, op, v, 2, 2, "")
		outIs(t, op, v, "9 9 1 5")
	}
}

// A frame more is needed for a class. If there may be none, the class stays as it is, and is initialised where there may.
func TestDepthOfClasses(t *testing.T) {
	for depth, want := range map[int]string{2: "5 1 8", 3: "1 7 8"} {
		for op, write := range needs("B") {
			a := newBuilt(t, "A", objectName, open).main(2, 0, func(c *coder) {
				c.static("A", "g", "()V")
				write(c)
				c.say(8).ops(177)
			}).method(api.Static, "g", "()V", 2, 0, func(c *coder) {
				c.here("a")
				write(c)
				c.here("b").say(7).ops(177).taker("taken", 5).guard("a", "b", "taken", lang+"StackOverflowError")
			})
			v := started(t, Options{200, 20, depth}, a, prompt(t, "B", objectName, 1, nil))
			if got := ends(t, v); got != want {
				t.Errorf("depth %d, %s: printed %q, want %q", depth, op, got, want)
			}
		}
	}
}

// One more is needed for what is above; if there may be none, the class below has failed, that above stays as it is.
func TestDepthAbove(t *testing.T) {
	a := newBuilt(t, "A", objectName, open).main(2, 0, func(c *coder) {
		c.here("a").get("L").here("b").ops(177).taker("one", 5).guard("a", "b", "one", lang+"StackOverflowError")
	})
	v := started(t, Options{200, 20, 2}, a, prompt(t, "L", "T", 2, nil), prompt(t, "T", objectName, 1, nil))
	if got := ends(t, v); got != "5" { // the frame for L is there, none for T
		t.Errorf("printed %q", got)
	}
	// L has failed by that, T has not.
	d := newBuilt(t, "D", objectName, open).main(2, 0, func(c *coder) { c.get("T").get("L").ops(177) })
	v.Define(d.bytes())
	v.Start("D")
	v.Run(1, 99)
	threadIs(t, "behind", v, 1, 3, lang+"NoClassDefFoundError")
	outIs(t, "behind", v, "5 1")
}

// Static fields have their values when the class's frame is there, in whatever order they are told.
func TestStaticValues(t *testing.T) {
	b := newBuilt(t, "B", objectName, open)
	number := func(tag uint8, bits uint64) uint16 { return b.constant(api.Const{Tag: tag, Bits: bits}) }
	for _, f := range []struct {
		name, of string
		value    uint16
	}{
		{"b", "B", number(api.Integer, 300)}, {"b2", "B", number(api.Integer, 200)}, {"s", "S", number(api.Integer, 70000)}, {"s2", "S", number(api.Integer, 40000)},
		{"c", "C", number(api.Integer, 1<<32-1)}, {"z", "Z", number(api.Integer, 2)}, {"z2", "Z", number(api.Integer, 3)}, {"i", "I", number(api.Integer, 1<<31)},
		{"j", "J", number(api.Long, 1<<63)}, {"f", "F", number(api.Float, uint64(math.Float32bits(-1.5)))}, {"d", "D", number(api.Double, math.Float64bits(2.25))},
		{"t", textType, b.stringRef("text")}, {"none", textType, 0}, {"n", "I", 0}, {"o", anyType, 0}, {"l", "J", 0},
	} {
		b.valued(api.Static, f.name, f.of, f.value)
	}
	show := func(c *coder) {
		for _, f := range []string{"b B I", "b2 B I", "s S I", "s2 S I", "c C I", "z Z I", "z2 Z I", "i I I", "j J J", "f F F", "d D D", "n I I", "l J J"} {
			x := strings.Fields(f)
			c.member(178, "B", x[0], x[1]).print(x[2])
		}
		c.member(178, "B", "t", textType).printText().member(178, "B", "none", textType).printText()
		c.member(178, "B", "t", textType).str("text").jump(165, "same").ops(3).print("I").mark("same", nil)
	}
	const values = "44 -56 4464 -25536 65535 0 1 -2147483648 -9223372036854775808 fbfc00000 d4002000000000000 0 0 'text null"
	b.starts(2, 0, show)
	prints(t, "in <clinit>, and behind it", values+" "+values, plain(t, 2, 0, show), b)
	v := started(t, usual, plain(t, 2, 0, func(c *coder) { c.get("C") }), newBuilt(t, "C", objectName, open).field(api.Static, "s", "I").valued(0, "x", "I", 0))
	runs(t, "without <clinit>", v, 0, 99, 6) // return of A's frame; C's frame, its return; 178, 87, 177
	ends(t, v)
}

// No room for a text among the values: the class has failed, with no frame for it.
func TestNoRoomForValue(t *testing.T) {
	for less := range 2 {
		for op, write := range needs("B") {
			b := prompt(t, "B", objectName, 1, nil)
			b.valued(api.Static, "one", textType, b.stringRef("one")).valued(api.Static, "two", textType, b.stringRef("other"))
			a := newBuilt(t, "A", objectName, open).main(2, 1, func(c *coder) {
				c.array(100).ops(75).here("a")
				write(c)
				c.here("b").say(2).ops(177).mark("taken", nil, throwableT).ops(87, 1, 75).say(3).here("c")
				write(c)
				c.here("d").ops(177).taker("again", 4)
				c.guard("a", "b", "taken", lang+"OutOfMemoryError").guard("c", "d", "again", lang+"NoClassDefFoundError")
			})
			words := 2 + 102 + 5 + 7 - less
			if op == "187" { // there must be room for the thing too
				words += 2 * (1 - less)
			}
			v := started(t, Options{words, 20, 5}, a, b)
			for v.Run(0, 1) == 1 && len(v.Out()) == 0 {
			}
			if got, want := v.Live(), []int{116, 7}[less]; got != want {
				t.Errorf("%s, %d words less: %d words, want %d", op, less, got, want)
			}
			if got, want := ends(t, v), []string{"1 2", "3 4"}[less]; got != want {
				t.Errorf("%s, %d words less: printed %q, want %q", op, less, got, want)
			}
		}
	}
}

// No room for a text of main's class: that is thrown at Start.
func TestNoRoomAtStart(t *testing.T) {
	a := plain(t, 1, 0, func(c *coder) { c.say(5) })
	a.valued(api.Static, "t", textType, a.stringRef(strings.Repeat("x", 97)))
	v := machine(t, Options{100, 20, 5}, a)
	for k, want := range []string{"OutOfMemoryError", "NoClassDefFoundError"} {
		if n, e := v.Start("A"); n != k || e != api.OK {
			t.Fatalf("Start = %d, %d", n, e)
		}
		threadIs(t, want, v, k, 3, lang+want)
		runs(t, want, v, k, 9, 0)
		if v.Live() != 2 {
			t.Errorf("%s: %d words", want, v.Live())
		}
	}
	b := guarded(t, 1, 0, lang+"OutOfMemoryError", func(c *coder) { c.say(5) })
	b.valued(api.Static, "t", textType, b.stringRef(strings.Repeat("x", 97)))
	v = started(t, Options{100, 20, 5}, b)
	runs(t, "taken", v, 0, 9, 4)
	outIs(t, "taken", v, "9")
	threadIs(t, "taken", v, 0, 2, "")
}

// What is above is initialised first, over three classes; interfaces of a class are not, nor what is above an interface.
func TestAboveFirst(t *testing.T) {
	face := newBuilt(t, "I", objectName, openFace, "J").field(api.Public|api.Static|api.Final, "s", "I").starts(1, 0, func(c *coder) { c.say(7) })
	above := newBuilt(t, "J", objectName, openFace).field(api.Public|api.Static|api.Final, "j", "I").starts(1, 0, func(c *coder) { c.say(8) })
	top, mid := prompt(t, "T", objectName, 1, nil), newBuilt(t, "U", "T", open, "I").maker()
	low := prompt(t, "L", "U", 3, nil)
	for _, c := range []struct {
		what, want string
		steps      int
		write      func(c *coder)
	}{
		{"over three", "1 3", 1 + 3 + (3 + 1 + 3) + 3, func(c *coder) { c.get("L") }},
		{"the one amidst first", "1 3", 1 + 2 + (3 + 1) + 2 + 1 + 3 + 3, func(c *coder) { c.with(187, c.class("U")).ops(87).get("L") }},
		{"the top first", "1 3", 1 + 1 + 3 + 2 + 1 + 1 + 1 + 3 + 3, func(c *coder) { c.get("T").get("L") }},
		{"an interface", "7", 1 + 1 + 3 + 3, func(c *coder) { c.get("I") }},
		{"what is above an interface", "8", 1 + 1 + 3 + 3, func(c *coder) { c.member(178, "I", "j", "I").ops(87) }},
	} {
		l := []*built{plain(t, 1, 0, c.write), top, mid, low, face, above}
		v := started(t, usual, l...)
		runs(t, c.what, v, 0, 99, c.steps)
		outIs(t, c.what, v, c.want)
		threadIs(t, c.what, v, 0, 2, "")
	}
}

// What is thrown when what is above is initialised is not taken by handlers of the frame, but by those of the frame ahead.
func TestAboveThrows(t *testing.T) {
	for what, c := range map[string]struct {
		want string // what is thrown, and what is printed ahead of it
		out  string
		high *built
	}{
		"<clinit> throws": {"ExceptionInInitializerError", "1", prompt(t, "High", objectName, 1, func(c *coder) { c.divide() })},
		"an error":        {"StackOverflowError", "1", prompt(t, "High", objectName, 1, func(c *coder) { c.ops(4).static("High", "g", "(I)V") }).method(api.Static, "g", "(I)V", 1, 1, func(c *coder) { c.ops(26).static("High", "g", "(I)V").ops(177) })},
		"a wrong class":   {"VerifyError", "", newBuilt(t, "High", objectName, open).method(api.Static, "x", "()V", 0, 0, func(c *coder) { c.ops(87, 177) })},
	} {
		low := newBuilt(t, "Low", "High", open).field(api.Static, "s", "I").method(api.Static, "<clinit>", "()V", 2, 0, func(x *coder) {
			x.here("a").say(2).here("b").ops(177).taker("taken", 3).guard("a", "b", "taken", "").guard("a", "b", "taken", lang+c.want)
		})
		a := newBuilt(t, "A", objectName, open).main(2, 0, func(x *coder) {
			x.here("a").get("Low").here("b").ops(177).mark("one", nil, throwableT).ops(87).say(6).here("c").get("Low").here("d").ops(177).taker("two", 7)
			x.guard("a", "b", "one", lang+c.want).guard("c", "d", "two", lang+"NoClassDefFoundError")
		})
		prints(t, what, strings.TrimSpace(c.out+" 6 7"), a, low, c.high)
	}
	// But what its own code throws is, and that it calls, and a class that it needs.
	low := newBuilt(t, "Low", objectName, open).field(api.Static, "s", "I").method(api.Static, "<clinit>", "()V", 2, 0, func(x *coder) {
		x.here("a").get("B").here("b").ops(177).taker("taken", 3).guard("a", "b", "taken", lang+"ExceptionInInitializerError")
	})
	prints(t, "a class that it needs", "1 3 8", plain(t, 1, 0, func(c *coder) { c.get("Low").say(8) }), low, prompt(t, "B", objectName, 1, func(c *coder) { c.divide() }))
	first := newBuilt(t, "Low", objectName, open).field(api.Static, "s", "I").method(api.Static, "<clinit>", "()V", 2, 0, func(x *coder) {
		x.here("a").ops(1).here("b").ops(191).here("c").taker("taken", 3).guard("b", "c", "taken", "")
	})
	prints(t, "its own", "3 8", plain(t, 1, 0, func(c *coder) { c.get("Low").say(8) }), first)
}

// What leaves the frame of a class: an error goes on as it is, all else is another then.
func TestLeavesClass(t *testing.T) {
	const another = lang + "ExceptionInInitializerError"
	for thrown, want := range map[string]string{
		lang + "Error": lang + "Error", lang + "LinkageError": lang + "LinkageError", lang + "OutOfMemoryError": lang + "OutOfMemoryError", another: another, "G": "G",
		throwable: another, lang + "Exception": another, lang + "RuntimeException": another, lang + "ArithmeticException": another, "E": another, "F": another,
	} {
		// From a frame that <clinit> calls; and over a class that needs the other.
		b := prompt(t, "B", objectName, 1, func(c *coder) { c.static("B", "g", "()V") }).method(api.Static, "g", "()V", 2, 0, func(c *coder) { c.throwNew(thrown) })
		d := prompt(t, "D", objectName, 2, func(c *coder) { c.get("B") })
		for class, out := range map[string]string{"B": "1", "D": "2 1"} {
			l := append([]*built{plain(t, 2, 0, func(c *coder) { c.get(class) }), b, d}, errorClasses(t)...)
			v := started(t, usual, l...)
			if why, _ := dies(t, v); why != want || v.Live() != 2 {
				t.Errorf("%s, by %s: died of %s, %d words", thrown, class, why, v.Live())
			}
			outIs(t, thrown, v, out)
			l[0] = guarded(t, 2, 0, want, func(c *coder) { c.get(class) })
			prints(t, thrown+" taken", out+" 9", l...)
		}
	}
}

// bulky: a class of what is thrown, of n words beside its two.
func bulky(t *testing.T, super string, n int) *built {
	b := newBuilt(t, "Big", super, open).maker()
	for k := range n {
		b.field(0, "f"+string(rune('a'+k%26))+strings.Repeat("x", k/26), "J")
	}
	return b
}

// What leaves the frame of a class is held till what comes instead is made, and is not after it; what else the frame held is not even then.
func TestHeldTillInstead(t *testing.T) {
	bare := func(c *coder) { c.throwNew("Big").mark("end", nil) }
	for what, c := range map[string]struct {
		limit int
		taken string // the class of the handler that takes what comes
		live  int
		write func(c *coder)
	}{
		"no word left":      {2 + 152, "OutOfMemoryError", 2, bare},
		"one word left":     {2 + 152 + 1, "OutOfMemoryError", 2, bare},
		"two words left":    {2 + 152 + 2, "ExceptionInInitializerError", 4, bare},
		"those of a local":  {2 + 2 + 152, "ExceptionInInitializerError", 4, func(c *coder) { c.array(0).ops(75).throwNew("Big").mark("end", nil) }},
		"those of a stack":  {2 + 2 + 152, "ExceptionInInitializerError", 4, func(c *coder) { c.array(0).throwNew("Big").mark("end", nil) }},
		"too few of a call": {2 + 152 + 1, "OutOfMemoryError", 2, func(c *coder) { c.static("B", "g", "()V") }},
		"enough of a call":  {2 + 152 + 2, "ExceptionInInitializerError", 4, func(c *coder) { c.static("B", "g", "()V") }},
	} {
		b := prompt(t, "B", objectName, 1, c.write).method(api.Static, "g", "()V", 2, 0, func(c *coder) { c.throwNew("Big") })
		l := []*built{plain(t, 2, 0, func(c *coder) { c.get("B") }), b, bulky(t, lang+"Exception", 150)}
		_, steps := dies(t, started(t, usual, l...))
		l[0] = guarded(t, 2, 0, lang+c.taken, func(c *coder) { c.get("B") })
		v := started(t, Options{c.limit, 20, 20}, l...)
		runs(t, what, v, 0, steps, steps)
		if v.Live() != c.live || ends(t, v) != "1 9" {
			t.Errorf("%s: %d words, printed %q", what, v.Live(), v.Out())
		}
	}
}

// An instruction comes again when a class is there, with all that it took.
func TestComesAgain(t *testing.T) {
	b := prompt(t, "B", objectName, 1, nil).field(api.Static, "o", anyType).field(api.Static, "j", "J").
		method(api.Static, "g", "(IJ"+anyType+")V", 2, 4, func(c *coder) {
			c.ops(26).print("I").ops(31).print("J").ops(45).with(192, c.class("[I")).ops(190).print("I").ops(177)
		})
	for what, c := range map[string]struct {
		want  string
		words int // while the class is initialised
		write func(c *coder)
	}{
		"a thing that is put": {"1 6", 10, func(c *coder) {
			c.array(6).member(179, "B", "o", anyType).member(178, "B", "o", anyType).with(192, c.class("[I")).ops(190).print("I")
		}},
		"a long that is put":           {"1 -7", 2, func(c *coder) { c.long(-7).member(179, "B", "j", "J").member(178, "B", "j", "J").print("J") }},
		"what a call takes":            {"1 4 -7 6", 10, func(c *coder) { c.ops(7).long(-7).array(6).static("B", "g", "(IJ"+anyType+")V") }},
		"what is below what is got":    {"1 0 6", 10, func(c *coder) { c.array(6).member(178, "B", "s", "I").print("I").ops(190).print("I") }},
		"what is below a thing's make": {"1 6", 10, func(c *coder) { c.array(6).with(187, c.class("B")).ops(87, 190).print("I") }},
	} {
		l := []*built{plain(t, 8, 0, c.write), b}
		prints(t, what, c.want, l...)
		v := started(t, usual, l...)
		for len(v.Out()) == 0 {
			v.Run(0, 1)
		}
		if n := v.Live(); n != c.words {
			t.Errorf("%s: %d words, want %d", what, n, c.words)
		}
	}
}
