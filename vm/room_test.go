package vm

import (
	"fmt"
	"strings"
	"testing"

	"jvmcore/api"
)

// array: of n ints.
func (c *coder) array(n int) *coder { return c.int(n).ops(188, 10) }

// roomFor: how many words there are ahead of the step in which the thread dies, and how many steps that takes.
func roomFor(t *testing.T, depth int, l ...*built) (int, int) {
	t.Helper()
	roomy := Options{5000, 20, depth}
	_, n := dies(t, started(t, roomy, l...))
	v := started(t, roomy, l...)
	v.Run(0, n-1)
	return v.Live(), n
}

// decides: what main throws is made just beside all that there is ahead of it; where there is a word less, it is an OutOfMemoryError instead.
func decides(t *testing.T, what, want string, l ...*built) {
	t.Helper()
	words, steps := roomFor(t, 3, l...)
	for less, class := range []string{want, "OutOfMemoryError"} {
		v := started(t, Options{words + 2 - less, 20, 3}, l...)
		if why, n := dies(t, v); why != lang+class || n != steps {
			t.Errorf("%s, %d words less: died of %s in %d steps, want %s in %d", what, less, why, n, class, steps)
		}
	}
}

// What an instruction took is held till what it throws is made, and is not after it.
func TestHeldTillThrown(t *testing.T) {
	const n = 200
	for what, c := range map[string]struct {
		want  string
		after int // words behind it, beside the one of 2 words and what is thrown
		write func(c *coder)
	}{
		"a load":                 {"ArrayIndexOutOfBoundsException", 0, func(c *coder) { c.array(n).int(n).ops(46, 87) }},
		"a store":                {"ArrayIndexOutOfBoundsException", 0, func(c *coder) { c.array(n).ops(2, 4, 79) }},
		"a store of a thing":     {"ArrayStoreException", 0, func(c *coder) { c.int(n).with(189, c.class(stringName)).ops(3).array(n).ops(83) }},
		"a store into none":      {"NullPointerException", 0, func(c *coder) { c.ops(1, 3).array(n).ops(83) }},
		"a field of none":        {"NullPointerException", 0, func(c *coder) { c.ops(1).array(n).member(181, "B", "o", anyType) }},
		"no field":               {"NoSuchFieldError", 0, func(c *coder) { c.array(n).member(179, "B", "none", anyType) }},
		"a final field":          {"IllegalAccessError", 0, func(c *coder) { c.array(n).member(179, "B", "f", anyType) }},
		"a call of none":         {"NullPointerException", 0, func(c *coder) { c.ops(1).array(n).virtual("B", "take", "("+anyType+")V") }},
		"no method":              {"NoSuchMethodError", 0, func(c *coder) { c.array(n).static("B", "none", "("+anyType+")V") }},
		"a native one":           {"UnsatisfiedLinkError", 0, func(c *coder) { c.array(n).static("B", "far", "("+anyType+")V") }},
		"a native one of things": {"UnsatisfiedLinkError", 0, func(c *coder) { c.made("B").array(n).virtual("B", "farther", "("+anyType+")V") }},
		"what is not of it":      {"IncompatibleClassChangeError", 0, func(c *coder) { c.array(n).with(192, c.class(objectName)).face("I", "x", "()V", 1) }},
		"too deep":               {"StackOverflowError", 0, func(c *coder) { c.array(n).static("B", "one", "("+anyType+")V") }},
		"a class too deep":       {"StackOverflowError", 0, func(c *coder) { c.array(n).static("B", "other", "("+anyType+")V") }},
		"a wrong class":          {"VerifyError", 0, func(c *coder) { c.array(n).member(179, "W", "o", anyType) }},
		"a cast":                 {"ClassCastException", 0, func(c *coder) { c.array(n).with(192, c.class(stringName)).ops(87) }},
		"a cast to no class":     {"NoClassDefFoundError", 0, func(c *coder) { c.array(n).with(192, c.class("None")).ops(87) }},
		"of no class":            {"NoClassDefFoundError", 0, func(c *coder) { c.array(n).with(193, c.class("None")).ops(87) }},
		"a lock":                 {"IllegalMonitorStateException", 0, func(c *coder) { c.array(n).ops(195) }},
		"below what it takes":    {"ArithmeticException", 0, func(c *coder) { c.array(n).ops(4, 3, 108, 88) }},
		"in a local":             {"ArithmeticException", n + 2, func(c *coder) { c.array(n).ops(76, 4, 3, 108, 87) }},
		"a text":                 {"StringIndexOutOfBoundsException", n/2 + 2, func(c *coder) { long(c, n).ops(2).ofText("charAt").ops(87) }},
		"two texts":              {"NullPointerException", n/2 + 2, func(c *coder) { long(c, n).ops(1).ofText("concat").ops(87) }},
	} {
		others := []*built{
			newBuilt(t, "B", objectName, open).maker().field(0, "o", anyType).field(api.Static|api.Final, "f", anyType).bare(api.Static|api.Native, "far", "("+anyType+")V").bare(api.Native, "farther", "("+anyType+")V").
				method(0, "take", "("+anyType+")V", 0, 2, func(c *coder) { c.ops(177) }).
				method(api.Static, "one", "("+anyType+")V", 2, 1, func(c *coder) { c.ops(42, 1, 75).static("B", "two", "("+anyType+")V").ops(177) }).
				method(api.Static, "two", "("+anyType+")V", 2, 1, func(c *coder) { c.ops(42, 1, 75).static("B", "one", "("+anyType+")V").ops(177) }).
				method(api.Static, "other", "("+anyType+")V", 2, 1, func(c *coder) { c.ops(42, 1, 75).static("B", "last", "("+anyType+")V").ops(177) }).
				method(api.Static, "last", "("+anyType+")V", 2, 1, func(c *coder) { c.ops(42, 1, 75).member(179, "C", "o", anyType).ops(177) }),
			newBuilt(t, "C", objectName, open).field(api.Static, "o", anyType),
			newBuilt(t, "I", objectName, openFace).bare(api.Public|api.Abstract, "x", "()V"),
			newBuilt(t, "W", objectName, open).field(api.Static, "o", anyType).method(api.Static, "x", "()V", 0, 0, func(c *coder) { c.ops(87, 177) }),
		}
		l := append([]*built{plain(t, 8, 2, c.write)}, others...)
		decides(t, what, c.want, l...)
		words, steps := roomFor(t, 3, l...)
		l[0] = guarded(t, 8, 2, "", c.write)
		for less := range 2 {
			v := started(t, Options{words + 2 - less, 20, 3}, l...)
			v.Run(0, steps)
			if got, want := v.Live(), c.after+4-2*less; got != want {
				t.Errorf("%s, %d words less: behind it %d words, want %d", what, less, got, want)
			}
			left := 2 + c.after%(n+2) // the local has gone, a text of the pool has not
			if ends(t, v) != "9" || v.Live() != left {
				t.Errorf("%s: at the end %d words, printed %q", what, v.Live(), v.Out())
			}
		}
	}
}

// long: a text of n units that nothing but the stack holds; the pool has one of half of them.
func long(c *coder, n int) *coder {
	half := strings.Repeat("x", n/2)
	return c.str(half).str(half).ofText("concat")
}

// No room for what is made: the one OutOfMemoryError, and no word more; there is room again when something has gone.
func TestNoRoom(t *testing.T) {
	for what, c := range map[string]struct {
		words int // of what is made
		write func(c *coder)
	}{
		"a thing":             {2 + 3, func(c *coder) { c.with(187, c.class("B")) }},
		"an array":            {2 + 7, func(c *coder) { c.array(7) }},
		"an array of nothing": {2, func(c *coder) { c.array(0) }},
		"an array of things":  {2 + 7, func(c *coder) { c.ops(16, 7).with(189, c.class("B")) }},
		"arrays":              {2 + 3 + 3*(2+2), func(c *coder) { c.ops(6, 5).with(197, c.class("[[J")).ops(2) }},
		"arrays of arrays":    {2 + 2 + 2*(2+2) + 4*2, func(c *coder) { c.ops(5, 5, 3).with(197, c.class("[[[J")).ops(3) }},
		"a text":              {2 + 6, func(c *coder) { c.str("abc").ops(89).ofText("concat") }},
		"a text of the pool":  {2 + 4, func(c *coder) { c.str("next") }},
	} {
		for less := range 3 {
			a := newBuilt(t, "A", objectName, open).main(6, 1, func(x *coder) {
				x.str("abc").ops(87).with(187, x.class("B")).ops(87).array(100).ops(75)
				x.here("from")
				c.write(x)
				x.here("to").ops(87, 4).print("I").ops(177).mark("taken", nil, throwableT).ops(87, 5).print("I")
				x.ops(1, 75)
				c.write(x)
				x.ops(87, 6).print("I").ops(177).guard("from", "to", "taken", lang+"OutOfMemoryError")
			})
			b := newBuilt(t, "B", objectName, open).field(0, "o", anyType).field(0, "j", "J").field(0, "z", "Z")
			v := started(t, Options{2 + 5 + 102 + c.words - less, 20, 3}, a, b)
			for v.Run(0, 1) == 1 && len(v.Out()) == 0 {
			}
			if got, want := v.Live(), map[bool]int{true: 2 + 5 + 102 + c.words, false: 2 + 5 + 102}[less == 0 && what == "a text of the pool"]; got != want {
				t.Errorf("%s, %d words less: %d words behind it, want %d", what, less, got, want)
			}
			if got, want := ends(t, v), map[bool]string{true: "1", false: "2 3"}[less == 0]; got != want {
				t.Errorf("%s, %d words less: printed %q, want %q", what, less, got, want)
			}
		}
	}
}

// All of them are the same thing, which is always there; another is another.
func TestOneOutOfMemoryError(t *testing.T) {
	locals := []api.VType{anyT, anyT, anyT}
	a := newBuilt(t, "A", objectName, open).main(6, 4, func(c *coder) {
		c.ops(1, 75, 1, 76, 1, 77)
		c.here("a").array(3000).here("b").ops(87, 177).mark("first", locals, throwableT).ops(75)
		c.here("c").str(strings.Repeat("x", 2100)).here("d").ops(87, 177).mark("second", locals, throwableT).ops(76)
		c.here("e").made(lang+"OutOfMemoryError").ops(191).here("f").mark("third", locals, throwableT).ops(77)
		for k, pair := range [][2]byte{{42, 43}, {42, 44}, {43, 44}} {
			c.ops(pair[0], pair[1]).jump(165, fmt.Sprint("same", k)).ops(3).print("I").jump(167, fmt.Sprint("on", k))
			c.mark(fmt.Sprint("same", k), locals).ops(4).print("I").mark(fmt.Sprint("on", k), locals)
		}
		c.ops(177).guard("a", "b", "first", "").guard("c", "d", "second", "").guard("e", "f", "third", lang+"VirtualMachineError")
	})
	prints(t, "three of them", "1 0 0", a)
}

// No room for what is thrown itself, again and again, over a heap that is full to the word.
func TestFullHeap(t *testing.T) {
	locals := []api.VType{obj("[I"), intT}
	a := newBuilt(t, "A", objectName, open).main(6, 2, func(c *coder) {
		c.array(96).ops(75, 16, 30, 60).mark("more", locals).here("a").ops(4, 3, 108, 60, 177).here("b").mark("taken", locals, obj(lang+"OutOfMemoryError")).ops(87)
		c.ops(132, 1, 255, 27).jump(157, "more").ops(27).print("I").ops(1, 75).here("c").ops(4, 3, 112, 60, 177).here("d").mark("last", nil, throwableT).ops(87, 5).print("I").ops(177)
		c.guard("a", "b", "taken", lang+"OutOfMemoryError").guard("c", "d", "last", lang+"ArithmeticException")
	})
	for _, young := range []int{20, 50, 100} {
		v := started(t, Options{100, young, 3}, a)
		if got := ends(t, v); got != "0 2" || v.Live() != 2 {
			t.Errorf("young %d: printed %q, %d words", young, got, v.Live())
		}
	}
}
