package vm

import (
	"fmt"
	"testing"

	"jvmcore/api"
)

// starts: <clinit> of that code, and behind it return.
func (b *built) starts(stack, locals int, write func(c *coder)) *built {
	return b.method(api.Static, "<clinit>", "()V", stack, locals, func(c *coder) {
		write(c)
		c.ops(177)
	})
}

// stepsOf: how many steps it takes till a line more is printed, or the thread is ended, each time.
func stepsOf(t *testing.T, v *VM) []int {
	t.Helper()
	var l []int
	lines, steps := 0, 0
	for v.Run(0, 1) == 1 {
		steps++
		if s, _, _ := v.Thread(0); len(v.Out()) > lines || s == 2 {
			lines = len(v.Out())
			l = append(l, steps)
			steps = 0
		}
	}
	return l
}

// Of main's class the static fields have their values, and <clinit> has run, ahead of main.
func TestMainClass(t *testing.T) {
	seven := func(b *built) *built {
		return b.valued(api.Static, "s", "I", b.constant(api.Const{Tag: api.Integer, Bits: 7})).field(api.Static, "o", anyType)
	}
	show := func(c *coder) { c.member(178, "A", "s", "I").print("I") }
	v := started(t, usual, seven(plain(t, 2, 0, show)))
	if got := stepsOf(t, v); fmt.Sprint(got) != "[3 1]" || ends(t, v) != "7" {
		t.Errorf("without <clinit>: steps %v, printed %q", got, v.Out())
	}
	v = started(t, usual, seven(plain(t, 2, 0, show)).starts(2, 0, func(c *coder) {
		show(c)
		c.ops(8).member(179, "A", "s", "I")
	}))
	if got := stepsOf(t, v); fmt.Sprint(got) != "[2 5 1]" || ends(t, v) != "7 5" {
		t.Errorf("with <clinit>: steps %v, printed %q", got, v.Out())
	}
	v = started(t, usual, seven(plain(t, 2, 0, show)).starts(2, 1, func(c *coder) {
		c.ops(8, 188, 10, 89, 75).member(179, "A", "o", anyType).ops(8, 188, 10, 87).static("A", "main", "()V").ops(8).member(179, "A", "s", "I")
	}))
	if got := lives(v); fmt.Sprint(got) != "[2 2 9 9 9 9 9 16 9 9 9 9 9 9 9 9 9 9 9]" || ends(t, v) != "7 5" {
		t.Errorf("a <clinit> that makes things and calls: words %v, printed %q", got, v.Out())
	}
	// A loop back to the first instruction.
	v = started(t, usual, seven(plain(t, 2, 0, show)).starts(3, 0, func(c *coder) {
		c.mark("again", nil).member(178, "A", "s", "I").ops(4, 100, 89).member(179, "A", "s", "I").jump(157, "again")
	}))
	if got := stepsOf(t, v); fmt.Sprint(got) != "[45 1]" || ends(t, v) != "0" {
		t.Errorf("a loop: steps %v, printed %q", got, v.Out())
	}
}

// The frame that initialises main's class is one more than main's.
func TestMainClassDepth(t *testing.T) {
	a := newBuilt(t, "A", objectName, open).starts(1, 0, func(c *coder) { c.static("A", "f", "()V") }).method(api.Static, "f", "()V", 1, 0, func(c *coder) { c.ops(4).print("I").ops(177) }).main(1, 0, func(c *coder) { c.ops(177) })
	for depth, want := range map[int]int{2: 3, 3: 2} {
		v := started(t, Options{100, 20, depth}, a)
		v.Run(0, 100)
		if s, why, _ := v.Thread(0); s != want {
			t.Errorf("depth %d: %d, %q", depth, s, why)
		}
	}
}

// Where there may be but one frame there is none for main's class: what is thrown for it is no step of the thread, which holds nothing then. A handler of main that has its first place in reach takes it.
func TestMainAlone(t *testing.T) {
	v := machine(t, Options{100, 20, 1}, plain(t, 1, 0, func(c *coder) { c.ops(8).print("I") }))
	for k := range 3 { // the class stays as it was
		if n, e := v.Start("A"); n != k || e != api.OK {
			t.Fatalf("Start = %d, %d", n, e)
		}
		if s, why, e := v.Thread(k); s != 3 || why != "java/lang/StackOverflowError" || e != api.OK || v.Run(k, 5) != 0 || v.Live() != 2 {
			t.Errorf("turn %d: %d, %q, %d, %d words", k, s, why, e, v.Live())
		}
	}
	v = started(t, Options{100, 20, 1}, guarded(t, 1, 0, lang+"StackOverflowError", func(c *coder) { c.ops(8).print("I") }))
	if n := v.Live(); n != 4 {
		t.Errorf("taken: %d words", n)
	}
	if n := v.Run(0, 100); n != 4 || ends(t, v) != "9" {
		t.Errorf("taken: %d steps, printed %q", n, v.Out())
	}
}

// Other classes are initialised when they are first needed, what is above ahead of them; that takes steps, and the instruction comes again.
func TestOtherClasses(t *testing.T) {
	say := func(n byte) func(c *coder) { return func(c *coder) { c.ops(16, n).print("I") } }
	top := newBuilt(t, "T", objectName, open).maker().field(api.Static, "s", "I").starts(1, 0, say(10))
	mid := newBuilt(t, "U", "T", open, "I").maker().method(api.Static, "f", "(I)I", 1, 1, func(c *coder) { c.ops(26, 172) })
	low := newBuilt(t, "L", "U", open).maker().starts(1, 0, say(30))
	face := newBuilt(t, "I", objectName, openFace).starts(1, 0, say(40)).field(api.Public|api.Static|api.Final, "k", "I")
	for _, c := range []struct {
		what, want string
		steps      string
		write      func(c *coder)
	}{
		{"a field that stands above", "10 0", "[4 3 1]", func(c *coder) { c.member(178, "L", "s", "I").print("I") }},
		{"a field that is put", "10 5", "[5 4 1]", func(c *coder) { c.ops(8).member(179, "T", "s", "I").ops(8).print("I") }},
		{"a method", "10 5", "[6 6 1]", func(c *coder) { c.ops(8).static("U", "f", "(I)I").print("I") }},
		{"a method that stands above", "10 5", "[6 6 1]", func(c *coder) { c.ops(8).static("L", "f", "(I)I").print("I") }},
		{"a thing", "10 30", "[6 4 16]", func(c *coder) { c.made("L").ops(87) }},
		{"an interface", "40 0", "[4 3 1]", func(c *coder) { c.member(178, "U", "k", "I").print("I") }},
		{"nothing", "5", "[12 1]", func(c *coder) {
			c.ops(4).with(189, c.class("L")).ops(87, 1).with(192, c.class("L")).ops(87, 1).with(193, c.class("T")).ops(87, 8).print("I")
		}},
	} {
		l := []*built{plain(t, 2, 0, c.write), top, mid, low, face}
		v := started(t, usual, l...)
		if got := fmt.Sprint(stepsOf(t, v)); got != c.steps {
			t.Errorf("%s: steps %s, want %s", c.what, got, c.steps)
		}
		prints(t, c.what, c.want, l...)
	}
	// Main's class below another.
	v := started(t, usual, newBuilt(t, "A", "T", open).main(1, 0, func(c *coder) { c.ops(5).print("I").ops(177) }), top)
	if got := fmt.Sprint(stepsOf(t, v)); got != "[3 4 1]" || ends(t, v) != "10 2" {
		t.Errorf("main's class below another: steps %s, printed %q", got, v.Out())
	}
}
