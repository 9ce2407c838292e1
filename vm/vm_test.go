package vm

import (
	"math"
	"reflect"
	"strings"
	"testing"

	"jvmcore/api"
)

func TestNew(t *testing.T) {
	const most = 1 << 20
	for _, c := range []struct {
		o  Options
		ok bool
	}{
		{Options{}, false},
		{Options{99, 50, 5}, false}, {Options{100, 50, 5}, true}, {Options{most, 50, 5}, true}, {Options{most + 1, 50, 5}, false},
		{Options{100, 19, 5}, false}, {Options{100, 20, 5}, true}, {Options{100, 100, 5}, true}, {Options{100, 101, 5}, false}, {Options{most, most, 5}, true}, {Options{most, most + 1, 5}, false},
		{Options{100, 50, 0}, false}, {Options{100, 50, 1}, true}, {Options{100, 50, 1000}, true}, {Options{100, 50, 1001}, false},
		{Options{-1, 50, 5}, false}, {Options{100, -1, 5}, false}, {Options{100, 50, -1}, false}, {Options{99, 19, 0}, false}, {Options{99, 100, 5}, false},
		{Options{math.MaxInt, math.MaxInt, math.MaxInt}, false}, {Options{math.MinInt, math.MinInt, math.MinInt}, false}, {Options{math.MaxInt, 50, 5}, false}, {Options{100, math.MaxInt, 5}, false}, {Options{100, 50, math.MaxInt}, false},
	} {
		v, e := New(c.o)
		if c.ok != (v != nil && e == api.OK) || !c.ok && (v != nil || e != api.ErrLimit) {
			t.Errorf("New(%v) = %v, %d", c.o, v, e)
		}
		if !c.ok || v == nil {
			continue
		}
		if v.Live() != 2 || v.Collect(false) != 0 || v.Collect(true) != 2 || v.Threads() != 0 || len(v.Out()) != 0 {
			t.Errorf("New(%v): %d words, %d threads, %v", c.o, v.Live(), v.Threads(), v.Out())
		}
	}
}

func TestDefine(t *testing.T) {
	v := machine(t, usual)
	one := plain(t, 1, 0, func(c *coder) {})
	s := one.bytes()
	for _, c := range []struct {
		what, s, name string
		e             api.Errno
	}{
		{"nothing", "", "", api.ErrEnd}, {"another beginning", "\xca\xfe\xba\xbf" + s[4:], "", api.ErrMagic}, {"cut short", s[:len(s)-1], "", api.ErrEnd}, {"too long", s + "\x00", "", api.ErrRest},
		{"flags", newBuilt(t, "X", objectName, api.Abstract|api.Final).bytes(), "", api.ErrFlags}, {"a name", newBuilt(t, "a//b", objectName, open).bytes(), "", api.ErrName},
		{"one", s, "A", api.OK}, {"again", s, "", api.ErrHas}, {"another of that name", newBuilt(t, "A", "B", open).bytes(), "", api.ErrHas},
		{"one that is there at first", newBuilt(t, outName, objectName, open).bytes(), "", api.ErrHas}, {"below nothing", newBuilt(t, "Low", "None", open).bytes(), "Low", api.OK},
	} {
		if name, e := v.Define(c.s); name != c.name || e != c.e {
			t.Errorf("Define of %s = %q, %d, want %q, %d", c.what, name, e, c.name, c.e)
		}
	}
}

// Classes that are defined when a thread runs already are found as if they had been there.
func TestDefineLater(t *testing.T) {
	a := plain(t, 2, 0, func(c *coder) { c.ops(4).print("I").static("B", "two", "()I").print("I") })
	b := newBuilt(t, "B", objectName, open).method(api.Public|api.Static, "two", "()I", 1, 0, func(c *coder) { c.ops(5, 172) })
	v := started(t, usual, a)
	v.Run(0, 3)
	if name, e := v.Define(b.bytes()); name != "B" || e != api.OK {
		t.Fatalf("Define = %q, %d", name, e)
	}
	if got := ends(t, v); got != "1 2" {
		t.Errorf("printed %q", got)
	}
}

func TestStart(t *testing.T) {
	empty := func(c *coder) { c.ops(177) }
	one := func(name string, flags uint16, method, of string) *built {
		return newBuilt(t, name, objectName, open).method(flags, method, of, 1, 1, empty)
	}
	v := machine(t, usual,
		one("Right", api.Static, "main", "()V"),
		one("Hidden", api.Static|api.Private, "main", "()V"),
		newBuilt(t, "Partial", objectName, open|api.Abstract).method(api.Static|api.Final, "main", "()V", 0, 0, empty),
		one("Bare", api.Static, "Main", "()V"),
		one("Thing", api.Public, "main", "()V"),
		one("Locked", api.Static|api.Synchronized, "main", "()V"),
		one("Takes", api.Static, "main", "([Ljava/lang/String;)V"),
		newBuilt(t, "Gives", objectName, open).method(api.Static, "main", "()I", 1, 1, func(c *coder) { c.ops(3, 172) }),
		newBuilt(t, "Below", "Right", open),
		newBuilt(t, "Far", objectName, open).bare(api.Static|api.Native, "main", "()V"),
		newBuilt(t, "None", objectName, open|api.Abstract).bare(api.Public|api.Abstract, "main", "()V"),
		newBuilt(t, "Face", objectName, openFace).bare(api.Public|api.Abstract, "main", "()V"),
		newBuilt(t, "Wrong", objectName, open).method(api.Static, "main", "()V", 1, 1, func(c *coder) { c.ops(87, 177) }),
		newBuilt(t, "WrongElsewhere", objectName, open).method(api.Static, "main", "()V", 1, 1, empty).method(api.Static, "x", "()V", 0, 0, func(c *coder) { c.ops(1, 177) }),
		newBuilt(t, "WrongAndBare", objectName, open).method(api.Static, "x", "()V", 0, 0, func(c *coder) { c.ops(1, 177) }),
		newBuilt(t, "Orphan", "Nobody", open).method(api.Static, "main", "()V", 1, 1, empty),
		newBuilt(t, "Ring", "Ring", open).method(api.Static, "main", "()V", 1, 1, empty),
		newBuilt(t, "Odd", "Face", open).method(api.Static, "main", "()V", 1, 1, empty),
		newBuilt(t, "Below2", "q/Shut", open).method(api.Static, "main", "()V", 1, 1, empty),
		newBuilt(t, "q/Shut", objectName, api.SuperFlag))
	number := 0
	for _, c := range []struct {
		name string
		e    api.Errno
	}{
		{"Nobody", api.ErrNoClass}, {"", api.ErrNoClass}, {"a//b", api.ErrNoClass}, {"[I", api.ErrNoClass}, {"[LRight;", api.ErrNoClass}, {"[", api.ErrNoClass},
		{objectName, api.ErrNoMethod}, {outName, api.ErrNoMethod}, {"java/lang/Thread", api.ErrNoMethod},
		{"Right", api.OK}, {"Hidden", api.OK}, {"Partial", api.OK}, {"Right", api.OK},
		{"Bare", api.ErrNoMethod}, {"Thing", api.ErrNoMethod}, {"Locked", api.ErrNoMethod}, {"Takes", api.ErrNoMethod}, {"Gives", api.ErrNoMethod}, {"Below", api.ErrNoMethod}, {"Far", api.ErrNoMethod}, {"None", api.ErrNoMethod}, {"Face", api.ErrNoMethod},
		{"Wrong", api.ErrVerify}, {"WrongElsewhere", api.ErrVerify}, {"WrongAndBare", api.ErrVerify},
		{"Orphan", api.ErrNoClass}, {"Ring", api.ErrCircle}, {"Odd", api.ErrChange}, {"Below2", api.ErrAccess},
	} {
		n, e := v.Start(c.name)
		if e != c.e || e == api.OK && n != number || e != api.OK && n != 0 {
			t.Errorf("Start(%q) = %d, %d, want error %d", c.name, n, e, c.e)
		}
		if e == api.OK {
			number++
		}
		if v.Threads() != number {
			t.Fatalf("behind Start(%q): %d threads", c.name, v.Threads())
		}
	}
	for n := range number {
		if s, why, e := v.Thread(n); s != 0 || why != "" || e != api.OK {
			t.Errorf("Thread(%d) = %d, %q, %d", n, s, why, e)
		}
	}
	if v.Live() != 2 || len(v.Out()) != 0 {
		t.Errorf("Live = %d, Out = %q", v.Live(), v.Out())
	}
}

// Two threads of one class, one behind the other: its class is initialised once.
func TestStartAgain(t *testing.T) {
	v := started(t, usual, plain(t, 1, 0, func(c *coder) { c.ops(4).print("I") }))
	if n := v.Run(0, 10); n != 4 {
		t.Errorf("the first: %d steps", n)
	}
	if n, e := v.Start("A"); n != 1 || e != api.OK {
		t.Fatalf("Start = %d, %d", n, e)
	}
	if n := v.Run(1, 10); n != 3 || strings.Join(v.Out(), " ") != "1 1" {
		t.Errorf("the second: %d steps, %q", n, v.Out())
	}
}

// A thread cannot go on to main while another initialises its class.
func TestStartMeanwhile(t *testing.T) {
	v := started(t, usual, plain(t, 1, 0, func(c *coder) { c.ops(4).print("I") }))
	v.Start("A")
	if n := v.Run(1, 10); n != 0 {
		t.Errorf("ahead of the class: %d steps", n)
	}
	if s, _, _ := v.Thread(1); s != 0 {
		t.Errorf("state %d", s)
	}
	v.Run(0, 1)
	if n := v.Run(1, 10); n != 3 {
		t.Errorf("behind it: %d steps", n)
	}
}

func TestRun(t *testing.T) {
	a := plain(t, 2, 0, func(c *coder) { c.ops(16, 7).print("I").ops(8).print("I") })
	v := machine(t, usual, a)
	for _, n := range []int{-1, 0, 1, math.MaxInt, math.MinInt} {
		if got := v.Run(n, 5); got != 0 {
			t.Errorf("Run(%d) where there is no thread = %d", n, got)
		}
		if s, why, e := v.Thread(n); s != 0 || why != "" || e != api.ErrIndex {
			t.Errorf("Thread(%d) where there is none = %d, %q, %d", n, s, why, e)
		}
	}
	v.Start("A")
	for _, n := range []int{-1, 1, math.MaxInt, math.MinInt} {
		if got := v.Run(n, 5); got != 0 {
			t.Errorf("Run(%d) = %d", n, got)
		}
		if s, why, e := v.Thread(n); s != 0 || why != "" || e != api.ErrIndex {
			t.Errorf("Thread(%d) = %d, %q, %d", n, s, why, e)
		}
	}
	for _, steps := range []int{0, -1, math.MinInt} {
		if got := v.Run(0, steps); got != 0 || len(v.Out()) != 0 {
			t.Errorf("Run of %d steps = %d, %q", steps, got, v.Out())
		}
	}
	for k, want := range []struct {
		state int
		out   string
	}{{0, ""}, {0, ""}, {0, "7"}, {0, "7"}, {0, "7 5"}, {2, "7 5"}} {
		got := v.Run(0, 1)
		s, why, e := v.Thread(0)
		if got != 1 || s != want.state || why != "" || e != api.OK || strings.Join(v.Out(), " ") != want.out {
			t.Errorf("step %d: %d, state %d, %q, %d, printed %q", k, got, s, why, e, v.Out())
		}
	}
	for _, steps := range []int{1, 100, math.MaxInt, -1} {
		if got := v.Run(0, steps); got != 0 || len(v.Out()) != 2 {
			t.Errorf("Run of a thread that is ended = %d, %q", got, v.Out())
		}
	}
	w := started(t, usual, a)
	if got := w.Run(0, math.MaxInt); got != 6 || !reflect.DeepEqual(w.Out(), v.Out()) {
		t.Errorf("in one piece: %d, %q", got, w.Out())
	}
	for pieces := 2; pieces < 8; pieces++ {
		w := started(t, usual, a)
		sum := 0
		for range 7 {
			sum += w.Run(0, pieces)
		}
		if sum != 6 || !reflect.DeepEqual(w.Out(), v.Out()) {
			t.Errorf("in pieces of %d: %d, %q", pieces, sum, w.Out())
		}
	}
}

// Lists that are handed out are new.
func TestOut(t *testing.T) {
	v := started(t, usual, plain(t, 1, 0, func(c *coder) { c.ops(4).print("I").ops(5).print("I").ops(6).print("I") }))
	if l := v.Out(); len(l) != 0 {
		t.Errorf("ahead of all: %q", l)
	}
	v.Run(0, 5)
	l := v.Out()
	l[0] = "mine"
	_ = append(l[:1], "mine", "mine", "mine")
	again := v.Out()
	v.Run(0, 100)
	if !reflect.DeepEqual(again, []string{"1", "2"}) || !reflect.DeepEqual(v.Out(), []string{"1", "2", "3"}) {
		t.Errorf("Out = %q, then %q", again, v.Out())
	}
}

// No machine hangs on another.
func TestMachines(t *testing.T) {
	write := func(n byte) *built {
		return newBuilt(t, "A", objectName, open).field(api.Static, "s", "I").main(2, 0, func(c *coder) {
			c.str("one").printText().member(178, "A", "s", "I").ops(n, 96, 89).member(179, "A", "s", "I").print("I").ops(177)
		})
	}
	one, other := started(t, usual, write(4)), started(t, Options{100, 20, 1000}, write(5))
	for range 20 {
		one.Run(0, 1)
		other.Run(0, 1)
	}
	if a, b := ends(t, one), ends(t, other); a != "'one 1" || b != "'one 2" {
		t.Errorf("printed %q and %q", a, b)
	}
	if one.Live() != 7 || other.Live() != 7 {
		t.Errorf("%d and %d words", one.Live(), other.Live())
	}
}

// What is thrown, and taken by nobody, ends the thread, which holds nothing then.
func TestDies(t *testing.T) {
	for _, c := range []struct {
		want  string
		live  int
		write func(c *coder)
	}{
		{"ArithmeticException", 2, func(c *coder) { c.ops(4, 3, 108, 87) }},
		{"NullPointerException", 2, func(c *coder) { c.ops(1, 190, 87) }},
		{"NullPointerException", 2, func(c *coder) { c.ops(1).virtual(objectName, "notify", "()V") }},
		{"ArrayIndexOutOfBoundsException", 2, func(c *coder) { c.ops(4, 188, 10, 4, 46, 87) }},
		{"ArrayIndexOutOfBoundsException", 2, func(c *coder) { c.ops(4, 188, 10, 2, 46, 87) }},
		{"NegativeArraySizeException", 2, func(c *coder) { c.ops(2, 188, 10, 87) }},
		{"NegativeArraySizeException", 2, func(c *coder) { c.ops(3, 2).with(197, c.class("[[I")).ops(2, 87) }},
		{"ArrayStoreException", 2, func(c *coder) { c.ops(4).with(189, c.class(stringName)).ops(3).made(objectName).ops(83) }},
		{"ClassCastException", 2, func(c *coder) { c.made(objectName).with(192, c.class(stringName)).ops(87) }},
		{"StringIndexOutOfBoundsException", 5, func(c *coder) { c.str("a").ops(4).ofText("charAt").ops(87) }},
		{"StringIndexOutOfBoundsException", 5, func(c *coder) { c.str("a").ops(2).ofText("charAt").ops(87) }},
		{"NullPointerException", 5, func(c *coder) { c.str("a").ops(1).ofText("concat").ops(87) }},
		{"OutOfMemoryError", 2, func(c *coder) { c.int(2000).ops(188, 10, 87) }},
		{"StackOverflowError", 2, func(c *coder) { c.static("A", "main", "()V") }},
		{"NoClassDefFoundError", 2, func(c *coder) { c.with(187, c.class("None")).ops(87) }},
		{"NoSuchFieldError", 2, func(c *coder) { c.member(178, "A", "x", "I").ops(87) }},
		{"NoSuchMethodError", 2, func(c *coder) { c.static("A", "x", "()V") }},
		{"IncompatibleClassChangeError", 2, func(c *coder) { c.ops(1).virtual("java/lang/Cloneable", "x", "()V") }},
		{"IncompatibleClassChangeError", 2, func(c *coder) { c.static(objectName, "notify", "()V") }},
		{"IncompatibleClassChangeError", 2, func(c *coder) { c.made(objectName).face("I", "x", "()V", 1) }},
		{"IllegalAccessError", 2, func(c *coder) { c.ops(4).member(179, "B", "f", "I") }},
		{"AbstractMethodError", 2, func(c *coder) { c.made("Q").virtual("P", "x", "()V") }},
		{"InstantiationError", 2, func(c *coder) { c.with(187, c.class("I")).ops(87) }},
		{"InstantiationError", 2, func(c *coder) { c.with(187, c.class("P")).ops(87) }},
		{"UnsatisfiedLinkError", 2, func(c *coder) { c.static("B", "far", "()V") }},
		{"VerifyError", 2, func(c *coder) { c.static("W", "x", "()V") }},
	} {
		v := started(t, usual, plain(t, 6, 1, func(x *coder) {
			x.ops(16, 20, 188, 10, 75) // what is held goes with the thread
			c.write(x)
		}),
			newBuilt(t, "B", objectName, open).field(api.Static|api.Final, "f", "I").bare(api.Static|api.Native, "far", "()V"),
			newBuilt(t, "I", objectName, openFace).bare(api.Public|api.Abstract, "x", "()V"),
			newBuilt(t, "P", objectName, open|api.Abstract).maker().bare(api.Public|api.Abstract, "x", "()V"),
			newBuilt(t, "Q", "P", open).maker(),
			newBuilt(t, "W", objectName, open).method(api.Static, "x", "()V", 0, 0, func(c *coder) { c.ops(87, 177) }))
		v.Run(0, 1000)
		if s, why, e := v.Thread(0); s != 3 || why != "java/lang/"+c.want || e != api.OK {
			t.Errorf("%s: %d, %q, %d", c.want, s, why, e)
		}
		if v.Run(0, 5) != 0 || v.Live() != c.live || len(v.Out()) != 0 {
			t.Errorf("%s: behind it: %d words, %q", c.want, v.Live(), v.Out())
		}
	}
	v := started(t, usual, newBuilt(t, "A", objectName, open).main(2, 0, func(c *coder) { c.made("E").ops(191) }), newBuilt(t, "E", "java/lang/Error", open).maker())
	v.Run(0, 100)
	if s, why, _ := v.Thread(0); s != 3 || why != "E" {
		t.Errorf("what is thrown by 191: %d, %q", s, why)
	}
}
