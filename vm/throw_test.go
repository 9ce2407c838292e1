package vm

import (
	"fmt"
	"math"
	"strings"
	"testing"

	"jvmcore/api"
)

const throwable = lang + "Throwable"

var throwableT = obj(throwable)

// dies: the thread must have died; of what, and in how many steps.
func dies(t *testing.T, v *VM) (string, int) {
	t.Helper()
	n := v.Run(0, 100000)
	s, why, e := v.Thread(0)
	if s != 3 || why == "" || e != api.OK || v.Run(0, 5) != 0 {
		t.Fatalf("the thread: %d, %q, %d; printed: %q", s, why, e, v.Out())
	}
	return why, n
}

// guarded: class A with main of that code, in reach of a handler of a class, which prints 9.
func guarded(t *testing.T, stack, locals int, class string, write func(c *coder)) *built {
	return newBuilt(t, "A", objectName, open).main(stack, locals, func(c *coder) {
		c.here("from")
		write(c)
		c.mark("to", nil).ops(177).mark("taken", nil, throwableT).ops(87, 16, 9).print("I").ops(177).guard("from", "to", "taken", class)
	})
}

// throws: that code, as main, must throw something of a class (java/lang/ is left out), which a handler takes; all of that is one step, with the instruction.
func throws(t *testing.T, what, class string, write func(c *coder), others ...*built) {
	t.Helper()
	class = lang + class
	bare := func(c *coder) {
		write(c)
		c.mark("end", nil)
	}
	v := started(t, usual, append([]*built{plain(t, 8, 2, bare)}, others...)...)
	why, steps := dies(t, v)
	if why != class || len(v.Out()) != 0 {
		t.Errorf("%s: died of %s, want %s; printed %q", what, why, class, v.Out())
	}
	v = started(t, usual, append([]*built{guarded(t, 8, 2, class, write)}, others...)...)
	if n := v.Run(0, steps); n != steps || len(v.Out()) != 0 {
		t.Errorf("%s: %d steps of %d, printed %q", what, n, steps, v.Out())
	}
	if n := v.Run(0, 100); n != 4 || ends(t, v) != "9" {
		t.Errorf("%s: %d steps behind it, printed %q", what, n, v.Out())
	}
}

// wrongClasses: there are no classes None; others have something wrong above them, or may not be seen.
func wrongClasses(t *testing.T) (map[string]string, []*built) {
	return map[string]string{
		"None":   "NoClassDefFoundError",
		"Orphan": "NoClassDefFoundError",
		"Ring":   "ClassCircularityError",
		"Odd":    "IncompatibleClassChangeError",
		"Sealed": "IncompatibleClassChangeError",
		"Far":    "IllegalAccessError",
		"q/Shut": "IllegalAccessError",
	}, []*built{
		newBuilt(t, "Orphan", "None", open),
		newBuilt(t, "Ring", "Ring", open),
		newBuilt(t, "Odd", "java/lang/Cloneable", open),
		newBuilt(t, "Sealed", stringName, open),
		newBuilt(t, "Far", "q/Shut", open),
		newBuilt(t, "q/Shut", objectName, api.SuperFlag),
	}
}

// What is wrong with the class that an instruction names.
func TestWrongClasses(t *testing.T) {
	classes, others := wrongClasses(t)
	for class, want := range classes {
		for op, write := range map[string]func(c *coder){
			"178":              func(c *coder) { c.member(178, class, "x", "I").ops(87) },
			"179":              func(c *coder) { c.ops(4).member(179, class, "x", "I") },
			"180":              func(c *coder) { c.ops(1).member(180, class, "x", "I").ops(87) },
			"181":              func(c *coder) { c.ops(1, 4).member(181, class, "x", "I") },
			"182":              func(c *coder) { c.ops(1).virtual(class, "m", "()V") },
			"184":              func(c *coder) { c.static(class, "m", "()V") },
			"185":              func(c *coder) { c.ops(1).face(class, "m", "()V", 1) },
			"187":              func(c *coder) { c.with(187, c.class(class)).ops(87) },
			"189":              func(c *coder) { c.ops(2).with(189, c.class(class)).ops(87) },
			"189, an array":    func(c *coder) { c.ops(3).with(189, c.class("[["+"L"+class+";")).ops(87) },
			"192":              func(c *coder) { c.made(objectName).with(192, c.class(class)).ops(87) },
			"192, an array":    func(c *coder) { c.made(objectName).with(192, c.class("[L"+class+";")).ops(87) },
			"193":              func(c *coder) { c.made(objectName).with(193, c.class(class)).ops(87) },
			"193, an array":    func(c *coder) { c.ops(3, 188, 10).with(193, c.class("[L"+class+";")).ops(87) },
			"197":              func(c *coder) { c.ops(2, 3).with(197, c.class("[[L"+class+";")).ops(2, 87) },
			"197, of deep one": func(c *coder) { c.ops(3).with(197, c.class("[[L"+class+";")).ops(1, 87) },
		} {
			throws(t, op+" of "+class, want, write, others...)
		}
	}
}

// memberClasses: fields and methods that may not be used as they are.
func memberClasses(t *testing.T) []*built {
	empty := func(c *coder) { c.ops(177) }
	return []*built{
		newBuilt(t, "B", objectName, open).maker().field(api.Private|api.Static, "p", "I").field(api.Private, "q", "I").field(api.Static, "s", "I").field(0, "i", "I").field(api.Static|api.Final, "f", "I").field(api.Final, "g", "I").
			method(api.Private|api.Static, "mp", "()V", 0, 0, empty).method(api.Private, "mq", "()V", 0, 1, empty).method(api.Static, "ms", "()V", 0, 0, empty).method(0, "mi", "()V", 0, 1, empty).bare(api.Static|api.Native, "far", "(I)V").bare(api.Native, "farther", "(I)V").
			starts(1, 0, func(c *coder) { c.ops(16, 77).print("I") }),
		newBuilt(t, "I", objectName, openFace).bare(api.Public|api.Abstract, "x", "()V").field(api.Public|api.Static|api.Final, "k", "I"),
		newBuilt(t, "P", objectName, open|api.Abstract).maker().bare(api.Public|api.Abstract, "x", "()V"),
		newBuilt(t, "O", objectName, open|api.Abstract).starts(1, 0, func(c *coder) { c.say(77) }),
		newBuilt(t, "Q", "P", open, "I").maker(),
		newBuilt(t, "R", objectName, open, "I").maker().method(0, "x", "()V", 0, 1, empty),
		newBuilt(t, "S", objectName, open, "I").maker().method(api.Private, "x", "()V", 0, 1, empty),
		newBuilt(t, "T", objectName, open, "I").maker(),
		newBuilt(t, "W", objectName, open).maker().field(api.Static, "s", "I").field(0, "i", "I").method(api.Static, "x", "()V", 0, 0, func(c *coder) { c.ops(87, 177) }),
		newBuilt(t, "V", "W", open).maker().field(api.Static, "t", "I"),
		newBuilt(t, "M", objectName, open).maker().field(api.Static, "s", "I").method(api.Static, "x", "()V", 1, 0, func(c *coder) { c.ops(3).jump(153, "no").here("no").ops(177) }),
		newBuilt(t, "N", objectName, open).maker().field(api.Static, "s", "I").method(api.Static, "x", "()V", 1, 0, func(c *coder) {
			c.here("a").ops(177).mark("b", nil, throwableT).ops(191).guard("a", "b", "b", "None")
		}),
	}
}

// What is wrong with members, and with classes that would be initialised for them. Where several things are wrong, the one that the chapters tell first is thrown.
func TestWrongMembers(t *testing.T) {
	for what, c := range map[string]struct {
		want  string
		write func(c *coder)
	}{
		"178 of no field":                     {"NoSuchFieldError", func(c *coder) { c.member(178, "B", "none", "I").ops(87) }},
		"178 of another type":                 {"NoSuchFieldError", func(c *coder) { c.member(178, "B", "s", "J").ops(88) }},
		"178 of a private one":                {"IllegalAccessError", func(c *coder) { c.member(178, "B", "p", "I").ops(87) }},
		"178 of one of things":                {"IncompatibleClassChangeError", func(c *coder) { c.member(178, "B", "i", "I").ops(87) }},
		"178 of a private one of things":      {"IllegalAccessError", func(c *coder) { c.member(178, "B", "q", "I").ops(87) }},
		"178 of a wrong class":                {"VerifyError", func(c *coder) { c.member(178, "W", "s", "I").ops(87) }},
		"178 below a wrong class":             {"VerifyError", func(c *coder) { c.member(178, "V", "s", "I").ops(87) }},
		"178 of one below a wrong class":      {"VerifyError", func(c *coder) { c.member(178, "V", "t", "I").ops(87) }},
		"178 of a class without a map":        {"VerifyError", func(c *coder) { c.member(178, "M", "s", "I").ops(87) }},
		"178 of a class that lacks another":   {"NoClassDefFoundError", func(c *coder) { c.member(178, "N", "s", "I").ops(87) }},
		"179 of no field":                     {"NoSuchFieldError", func(c *coder) { c.ops(4).member(179, "B", "none", "I") }},
		"179 of a private one":                {"IllegalAccessError", func(c *coder) { c.ops(4).member(179, "B", "p", "I") }},
		"179 of one of things":                {"IncompatibleClassChangeError", func(c *coder) { c.ops(4).member(179, "B", "i", "I") }},
		"179 of a final one":                  {"IllegalAccessError", func(c *coder) { c.ops(4).member(179, "B", "f", "I") }},
		"179 of a final one of an interface":  {"IllegalAccessError", func(c *coder) { c.ops(4).member(179, "Q", "k", "I") }},
		"179 of a final one of things":        {"IncompatibleClassChangeError", func(c *coder) { c.ops(4).member(179, "B", "g", "I") }},
		"179 of a wrong class":                {"VerifyError", func(c *coder) { c.ops(4).member(179, "W", "s", "I") }},
		"180 of no field of none":             {"NoSuchFieldError", func(c *coder) { c.ops(1).member(180, "B", "none", "I").ops(87) }},
		"180 of a private one of none":        {"IllegalAccessError", func(c *coder) { c.ops(1).member(180, "B", "q", "I").ops(87) }},
		"180 of a static one of none":         {"IncompatibleClassChangeError", func(c *coder) { c.ops(1).member(180, "B", "s", "I").ops(87) }},
		"180 of none":                         {"NullPointerException", func(c *coder) { c.ops(1).member(180, "B", "i", "I").ops(87) }},
		"180 of none of a wrong class":        {"NullPointerException", func(c *coder) { c.ops(1).member(180, "W", "i", "I").ops(87) }},
		"181 of no field of none":             {"NoSuchFieldError", func(c *coder) { c.ops(1, 4).member(181, "B", "none", "I") }},
		"181 of a private one of none":        {"IllegalAccessError", func(c *coder) { c.ops(1, 4).member(181, "B", "q", "I") }},
		"181 of a static one of none":         {"IncompatibleClassChangeError", func(c *coder) { c.ops(1, 4).member(181, "B", "s", "I") }},
		"181 of a static, final one of none":  {"IncompatibleClassChangeError", func(c *coder) { c.ops(1, 4).member(181, "B", "f", "I") }},
		"181 of a final one of none":          {"IllegalAccessError", func(c *coder) { c.ops(1, 4).member(181, "B", "g", "I") }},
		"181 of none":                         {"NullPointerException", func(c *coder) { c.ops(1, 4).member(181, "B", "i", "I") }},
		"182 of no method of none":            {"NoSuchMethodError", func(c *coder) { c.ops(1).virtual("B", "none", "()V") }},
		"182 of an interface":                 {"IncompatibleClassChangeError", func(c *coder) { c.ops(1).virtual("I", "x", "()V") }},
		"182 of a private one of none":        {"IllegalAccessError", func(c *coder) { c.ops(1).virtual("B", "mq", "()V") }},
		"182 of a static one of none":         {"IncompatibleClassChangeError", func(c *coder) { c.ops(1).virtual("B", "ms", "()V") }},
		"182 of none":                         {"NullPointerException", func(c *coder) { c.ops(1).virtual("B", "mi", "()V") }},
		"182 of none, abstract":               {"NullPointerException", func(c *coder) { c.ops(1).virtual("P", "x", "()V") }},
		"182, abstract":                       {"AbstractMethodError", func(c *coder) { c.made("Q").virtual("P", "x", "()V") }},
		"182, abstract in a class that isn't": {"AbstractMethodError", func(c *coder) { c.ops(1).virtual("T", "x", "()V") }},
		"183 of no method":                    {"NoSuchMethodError", func(c *coder) { c.with(187, c.class("Q")).ops(4).special("Q", "<init>", "(I)V") }},
		"184 of no method":                    {"NoSuchMethodError", func(c *coder) { c.static("B", "none", "()V") }},
		"184 of an interface":                 {"IncompatibleClassChangeError", func(c *coder) { c.static("I", "x", "()V") }},
		"184 of a private one":                {"IllegalAccessError", func(c *coder) { c.static("B", "mp", "()V") }},
		"184 of one of things":                {"IncompatibleClassChangeError", func(c *coder) { c.static("B", "mi", "()V") }},
		"184 of a private one of things":      {"IllegalAccessError", func(c *coder) { c.static("B", "mq", "()V") }},
		"184 of an abstract one":              {"IncompatibleClassChangeError", func(c *coder) { c.static("P", "x", "()V") }},
		"184 of a wrong class":                {"VerifyError", func(c *coder) { c.static("W", "x", "()V") }},
		"184 of a class without a map":        {"VerifyError", func(c *coder) { c.static("M", "x", "()V") }},
		"184 of a class that lacks another":   {"NoClassDefFoundError", func(c *coder) { c.static("N", "x", "()V") }},
		"185 of no method of none":            {"NoSuchMethodError", func(c *coder) { c.ops(1).face("I", "none", "()V", 1) }},
		"185 of a class":                      {"IncompatibleClassChangeError", func(c *coder) { c.ops(1).face("P", "x", "()V", 1) }},
		"185 of none":                         {"NullPointerException", func(c *coder) { c.ops(1).face("I", "x", "()V", 1) }},
		"185 of what is not of it":            {"IncompatibleClassChangeError", func(c *coder) { c.made(objectName).face("I", "x", "()V", 1) }},
		"185 of an array":                     {"IncompatibleClassChangeError", func(c *coder) { c.ops(3, 188, 10).with(192, c.class(objectName)).face("I", "x", "()V", 1) }},
		"185, there is none":                  {"AbstractMethodError", func(c *coder) { c.made("Q").face("I", "x", "()V", 1) }},
		"185, it is not public":               {"IllegalAccessError", func(c *coder) { c.made("R").face("I", "x", "()V", 1) }},
		"185, it is private":                  {"AbstractMethodError", func(c *coder) { c.made("S").face("I", "x", "()V", 1) }},
		"187 of an interface":                 {"InstantiationError", func(c *coder) { c.with(187, c.class("I")).ops(87) }},
		"187 of an abstract one":              {"InstantiationError", func(c *coder) { c.with(187, c.class("P")).ops(87) }},
		"187 of one that has <clinit>":        {"InstantiationError", func(c *coder) { c.with(187, c.class("O")).ops(87) }},
		"187 of a wrong class":                {"VerifyError", func(c *coder) { c.with(187, c.class("W")).ops(87) }},
		"187 below a wrong class":             {"VerifyError", func(c *coder) { c.with(187, c.class("V")).ops(87) }},
		"187 of a class without a map":        {"VerifyError", func(c *coder) { c.with(187, c.class("M")).ops(87) }},
	} {
		throws(t, what, c.want, c.write, memberClasses(t)...)
	}
}

// 183 names what is above: the method that is selected there.
func TestWrongSpecial(t *testing.T) {
	empty := func(c *coder) { c.ops(177) }
	others := []*built{
		newBuilt(t, "P", objectName, open|api.Abstract).maker().bare(api.Public|api.Abstract, "x", "()V").method(api.Private, "p", "()V", 0, 1, empty).method(api.Static, "s", "()V", 0, 0, empty).bare(api.Public|api.Native, "n", "()V"),
	}
	for name, want := range map[string]string{"x": "AbstractMethodError", "p": "IllegalAccessError", "s": "IncompatibleClassChangeError", "n": "UnsatisfiedLinkError", "none": "NoSuchMethodError"} {
		a := newBuilt(t, "A", "P", open).maker().method(api.Public, "x", "()V", 1, 1, func(c *coder) { c.ops(42).special("P", name, "()V").ops(177) }).
			main(2, 0, func(c *coder) { c.made("A").virtual("A", "x", "()V").ops(177) })
		if why, _ := dies(t, started(t, usual, a, others[0])); why != lang+want {
			t.Errorf("%s: died of %s, want %s", name, why, want)
		}
		own := newBuilt(t, "A", "P", open).maker().method(api.Public, "x", "()V", 1, 1, func(c *coder) { c.ops(1).special("P", name, "()V").ops(177) }).
			main(2, 0, func(c *coder) { c.made("A").virtual("A", "x", "()V").ops(177) })
		if name == "x" || name == "n" {
			want = "NullPointerException"
		}
		if why, _ := dies(t, started(t, usual, own, others[0])); why != lang+want {
			t.Errorf("%s of none: died of %s, want %s", name, why, want)
		}
	}
}

// arrays: what 46 to 53 and 79 to 86 load and store, in their order: 188's number (0: of things), and how it is pushed.
var arrayKinds = []struct {
	kind byte
	push []byte
	pop  byte
}{{10, []byte{3}, 87}, {11, []byte{9}, 88}, {6, []byte{11}, 87}, {7, []byte{14}, 88}, {0, []byte{1}, 87}, {8, []byte{3}, 87}, {5, []byte{3}, 87}, {9, []byte{3}, 87}}

func TestThrownByArrays(t *testing.T) {
	for k, a := range arrayKinds {
		array := func(c *coder, n int) {
			if c.int(n); a.kind == 0 {
				c.with(189, c.class(stringName))
			} else {
				c.ops(188, a.kind)
			}
		}
		for _, at := range []struct{ length, index int }{{0, 0}, {0, -1}, {3, -1}, {3, 3}, {3, 4}, {3, math.MaxInt32}, {3, math.MinInt32}, {3, 1 << 16}} {
			throws(t, fmt.Sprint(46+k, at), "ArrayIndexOutOfBoundsException", func(c *coder) {
				array(c, at.length)
				c.int(at.index).ops(46+byte(k), a.pop)
			})
			throws(t, fmt.Sprint(79+k, at), "ArrayIndexOutOfBoundsException", func(c *coder) {
				array(c, at.length)
				c.int(at.index).ops(a.push...).ops(79 + byte(k))
			})
		}
		throws(t, fmt.Sprint(46+k, " of none"), "NullPointerException", func(c *coder) { c.ops(1, 2, 46+byte(k), a.pop) })
		throws(t, fmt.Sprint(79+k, " of none"), "NullPointerException", func(c *coder) { c.ops(1, 2).ops(a.push...).ops(79 + byte(k)) })
		throws(t, fmt.Sprint("an array of -1, kind ", k), "NegativeArraySizeException", func(c *coder) {
			array(c, -1)
			c.ops(87)
		})
		throws(t, fmt.Sprint("an array of the least, kind ", k), "NegativeArraySizeException", func(c *coder) {
			array(c, math.MinInt32)
			c.ops(87)
		})
	}
}

func TestThrownByThings(t *testing.T) {
	for what, c := range map[string]struct {
		want  string
		write func(c *coder)
	}{
		"108":                       {"ArithmeticException", func(c *coder) { c.ops(4, 3, 108, 87) }},
		"109":                       {"ArithmeticException", func(c *coder) { c.ops(10, 9, 109, 88) }},
		"112":                       {"ArithmeticException", func(c *coder) { c.int(math.MinInt32).ops(3, 112, 87) }},
		"113":                       {"ArithmeticException", func(c *coder) { c.ops(9, 9, 113, 88) }},
		"190 of none":               {"NullPointerException", func(c *coder) { c.ops(1, 190, 87) }},
		"191 of none":               {"NullPointerException", func(c *coder) { c.ops(1, 191) }},
		"194 of none":               {"NullPointerException", func(c *coder) { c.ops(1, 194) }},
		"195 of none":               {"NullPointerException", func(c *coder) { c.ops(1, 195) }},
		"195 of a thing":            {"IllegalMonitorStateException", func(c *coder) { c.made(objectName).ops(195) }},
		"195 once more":             {"IllegalMonitorStateException", func(c *coder) { c.made(objectName).ops(89, 89, 89, 194, 89, 194, 195, 195, 195) }},
		"195 of another":            {"IllegalMonitorStateException", func(c *coder) { c.made(objectName).ops(194).made(objectName).ops(195) }},
		"191 of a thing":            {"Exception", func(c *coder) { c.made(lang + "Exception").ops(191) }},
		"191 of one above all":      {"Throwable", func(c *coder) { c.made(throwable).ops(191) }},
		"191 of an error":           {"OutOfMemoryError", func(c *coder) { c.made(lang + "OutOfMemoryError").ops(191) }},
		"a thing into texts":        {"ArrayStoreException", func(c *coder) { c.ops(4).with(189, c.class(stringName)).ops(3).made(objectName).ops(83) }},
		"an index, ahead of that":   {"ArrayIndexOutOfBoundsException", func(c *coder) { c.ops(4).with(189, c.class(stringName)).ops(4).made(objectName).ops(83) }},
		"an array into texts":       {"ArrayStoreException", func(c *coder) { c.ops(4).with(189, c.class(stringName)).ops(3, 3, 188, 10, 83) }},
		"ints into arrays of longs": {"ArrayStoreException", func(c *coder) { c.ops(4).with(189, c.class("[J")).ops(3, 3, 188, 10, 83) }},
		"a cast":                    {"ClassCastException", func(c *coder) { c.made(objectName).with(192, c.class(stringName)).ops(87) }},
		"a cast of an array":        {"ClassCastException", func(c *coder) { c.ops(3, 188, 10).with(192, c.class("[J")).ops(87) }},
		"a cast to an interface":    {"ClassCastException", func(c *coder) { c.made(objectName).with(192, c.class("java/lang/Cloneable")).ops(87) }},
		"the first number of 197":   {"NegativeArraySizeException", func(c *coder) { c.ops(2, 3).with(197, c.class("[[I")).ops(2, 87) }},
		"the last number of 197":    {"NegativeArraySizeException", func(c *coder) { c.ops(3, 2).with(197, c.class("[[I")).ops(2, 87) }},
		"a number of 197 amidst":    {"NegativeArraySizeException", func(c *coder) { c.int(30000).ops(2, 3).with(197, c.class("[[[I")).ops(3, 87) }},
		"native":                    {"UnsatisfiedLinkError", func(c *coder) { c.ops(3).static("N", "far", "(I)V") }},
		"a text at -1":              {"StringIndexOutOfBoundsException", func(c *coder) { c.str("ab").ops(2).ofText("charAt").ops(87) }},
		"a text at its length":      {"StringIndexOutOfBoundsException", func(c *coder) { c.str("ab").ops(5).ofText("charAt").ops(87) }},
		"a text at the last":        {"StringIndexOutOfBoundsException", func(c *coder) { c.str("ab").int(math.MaxInt32).ofText("charAt").ops(87) }},
		"a text at the first":       {"StringIndexOutOfBoundsException", func(c *coder) { c.str("ab").int(math.MinInt32).ofText("charAt").ops(87) }},
		"an empty text":             {"StringIndexOutOfBoundsException", func(c *coder) { c.str("").ops(3).ofText("charAt").ops(87) }},
		"a text and none":           {"NullPointerException", func(c *coder) { c.str("ab").ops(1).ofText("concat").ops(87) }},
		"none and a text":           {"NullPointerException", func(c *coder) { c.ops(1).str("ab").ofText("concat").ops(87) }},
		"none's length":             {"NullPointerException", func(c *coder) { c.ops(1).ofText("length").ops(87) }},
		"none's unit":               {"NullPointerException", func(c *coder) { c.ops(1, 2).ofText("charAt").ops(87) }},
		"none equals":               {"NullPointerException", func(c *coder) { c.ops(1, 1).ofText("equals").ops(87) }},
		"none's intern":             {"NullPointerException", func(c *coder) { c.ops(1).ofText("intern").ops(87) }},
		"no room for an array":      {"OutOfMemoryError", func(c *coder) { c.int(2000).ops(188, 10, 87) }},
		"no room at all":            {"OutOfMemoryError", func(c *coder) { c.int(math.MaxInt32).ops(188, 11, 87) }},
		"no room for arrays":        {"OutOfMemoryError", func(c *coder) { c.ops(16, 100, 16, 100).with(197, c.class("[[I")).ops(2, 87) }},
	} {
		throws(t, what, c.want, c.write, newBuilt(t, "N", objectName, open).bare(api.Static|api.Native, "far", "(I)V"))
	}
}

// None is cast, and asked for, whatever the class.
func TestNoneIsOfNothing(t *testing.T) {
	prints(t, "none", "null 0", plain(t, 2, 0, func(c *coder) {
		c.ops(1).with(192, c.class("None")).ops(87, 1).with(192, c.class(stringName)).printText().ops(1).with(193, c.class("None")).print("I")
	}))
}

// A method that calls itself: at the call that would be one frame too many; what is native needs none.
func TestTooDeep(t *testing.T) {
	for _, depth := range []int{2, 3, 5, 1000} {
		a := newBuilt(t, "A", objectName, open).field(api.Static, "n", "I").main(2, 0, func(c *coder) {
			c.here("from").static("A", "deep", "()V").here("to").ops(177).mark("taken", nil, throwableT).ops(87).member(178, "A", "n", "I").print("I").ops(177).guard("from", "to", "taken", lang+"StackOverflowError")
		})
		a.method(api.Static, "deep", "()V", 2, 0, func(c *coder) {
			c.ops(3).print("I").member(178, "A", "n", "I").ops(4, 96).member(179, "A", "n", "I").static("A", "deep", "()V").ops(177)
		})
		v := started(t, Options{100, 20, depth}, a)
		if got, want := ends(t, v), strings.Repeat("0 ", depth-1)+fmt.Sprint(depth-1); got != want {
			t.Errorf("depth %d: printed %q, want %q", depth, got, want)
		}
	}
}
