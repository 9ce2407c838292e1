package verify

import (
	"strings"
	"testing"

	"jvmcore/api"
	"jvmcore/link"
)

// Each local at the beginning is loaded as what it is.
func TestFirstLocals(t *testing.T) {
	const of = "(IJLA;D[IFZ)V"
	loads := ops(21, 0, 87, 22, 1, 88, 25, 3, 87, 24, 4, 88, 25, 6, 87, 23, 7, 87, 21, 8, 87)
	subject(t).routine(api.Static, "m", of, 2, 9, loads, ret).want("static", fine)
	behind := ops(25, 0, 87, 21, 1, 87, 22, 2, 88, 25, 4, 87, 24, 5, 88, 25, 7, 87, 23, 8, 87, 21, 9, 87)
	subject(t).routine(0, "m", of, 2, 10, behind, ret).want("not static", fine)
	for k, op := range []byte{21, 22, 25, 25, 24, 25, 25, 23, 21, 21} {
		right := k != 2 && k != 5 && k != 9 // Top: behind wide ones, behind all
		want := wrong(0)
		if right {
			want = fine
		}
		subject(t).routine(api.Static, "m", of, 2, 11, ops(op, byte(k)), ret).want("local", want)
	}
}

// What a method is of is Object of its class; in <init> it is FreshThis, and nothing can be given or returned ahead of <init>.
func TestFirstLocalIsThis(t *testing.T) {
	subject(t).routine(0, "m", "()LT;", 1, 1, ops(42, 176)).want("this", fine)
	subject(t).routine(0, "m", "()LA;", 1, 1, ops(42, 176)).want("this as what is above", fine)
	subject(t).routine(0, "m", "()LB;", 1, 1, ops(42, 176)).want("this as another", wrong(1))
	subject(t).routine(api.Static, "m", "()V", 1, 1, ops(42), ret).want("static has no this", wrong(0))
	b := subject(t)
	b.routine(0, initName, "()V", 1, 1, ops(42), with(192, b.class("A")), ret).want("FreshThis is no Object", wrong(1))
	subject(t).routine(0, initName, "()V", 1, 1, ops(42, 87), ret).want("half made", wrong(2))
}

// Every kind of descriptor as what a method takes, held against the frame that it must fit.
func TestDescriptors(t *testing.T) {
	for of, want := range map[string]api.VType{"B": intT, "C": intT, "I": intT, "S": intT, "Z": intT, "J": longT, "F": floatT, "D": doubleT, "LNone;": obj("None"), "[I": obj("[I"), "[[LNone;": obj("[[LNone;")} {
		for _, other := range types(intT, longT, floatT, doubleT, obj("None"), obj("[I"), obj("[[LNone;")) {
			r := subject(t).routine(api.Static, "m", "("+of+")V", 0, 2, ops(0), ret).takes(want)
			r.frames(inLocals(1, other))
			v := judge(t, r.built)
			if (v == fine) != (other == want) {
				t.Errorf("%s to %v: %v", of, other, v)
			}
		}
	}
}

// So many locals there must be. A world takes no class with fewer, but the verifier goes by its own words.
func TestMaxLocals(t *testing.T) {
	subject(t).routine(api.Static, "m", "(JD)V", 0, 4, ret).want("as many", fine)
	subject(t).routine(0, "m", "(JD)V", 0, 5, ret).want("as many, with this", fine)
	subject(t).routine(0, "m", "("+strings.Repeat("J", 127)+")V", 0, 255, ret).want("as many as can be", fine)
	for _, c := range []struct {
		flags  uint16
		of     string
		locals int
	}{{api.Static, "(JD)V", 3}, {0, "(JD)V", 4}, {0, "()V", 0}, {api.Static, "(I)V", 0}} {
		b := subject(t)
		r := b.routine(c.flags, "m", c.of, 0, c.locals, ret)
		if _, e := link.New().Define(b.bytes()); e != api.ErrLength {
			t.Errorf("Define with %d locals of %s: %d", c.locals, c.of, e)
		}
		r.Code.Map = "\xff"
		if e, at := newClass(worldOf(t, neighbours(t)...), b.Class).wrongIn(r.Method); e != api.ErrVerify || at != 0 {
			t.Errorf("%d locals of %s: %d, %d", c.locals, c.of, e, at)
		}
	}
}

func TestMaps(t *testing.T) {
	for s, want := range map[string]verdict{
		"": fine, "\x00\x00": fine, "\x00\x01\x01": fine, "\x00\x02\x00\x00": fine,
		"\x00":                     broken(api.ErrMap, 0), // ends too soon
		"\x00\x01":                 broken(api.ErrMap, 0),
		"\x00\x00\x00":             broken(api.ErrMap, 0), // bytes are left
		"\x00\x01\x80":             broken(api.ErrMap, 0), // no form
		"\x00\x01\xfa\x00\x00":     broken(api.ErrMap, 0), // fewer locals than are taken off
		"\x00\x01\x40\x09":         broken(api.ErrMap, 0), // no type
		"\x00\x01\x40\x07\x00\x01": broken(api.ErrMap, 0), // no class
		"\x00\x01\x40\x07\xff\xff": broken(api.ErrMap, 0),
		"\x00\x01\x02":             broken(api.ErrMap, 0), // behind the end
		"\x00\x01\x03":             broken(api.ErrMap, 0),
	} {
		r := static(t, 1, 0, ops(0), ret)
		r.Code.Map = s
		r.want("map", want)
	}
}

// code: 0 return, 1 sipush, 4 pop, 5 new, 8 pop, 9 return: what a frame at 1 may be.
func TestMapsFrames(t *testing.T) {
	for _, c := range []struct {
		what          string
		stack, locals int
		f             api.Frame
		right         bool
	}{
		{"nothing", 1, 0, inLocals(1), true},
		{"where none begins", 1, 0, inLocals(2), false},
		{"at the last", 1, 0, inLocals(9), true},
		{"at the end", 1, 0, inLocals(10), false},
		{"far behind the end", 1, 0, inLocals(65535), false},
		{"as many locals", 1, 3, inLocals(1, intT, topT, nullT), true},
		{"a local more", 1, 3, inLocals(1, intT, topT, nullT, intT), false},
		{"a local more that is Top", 1, 3, inLocals(1, intT, topT, nullT, topT), false},
		{"a wide one", 1, 3, inLocals(1, intT, longT), true},
		{"a wide one too late", 1, 3, inLocals(1, intT, intT, longT), false},
		{"behind a wide one", 1, 3, inLocals(1, doubleT, intT), true},
		{"behind two wide ones", 1, 3, inLocals(1, doubleT, doubleT), false},
		{"a local where none may be", 1, 0, inLocals(1, topT), false},
		{"as much on the stack", 3, 0, onStack(1, intT, longT), true},
		{"more on the stack", 3, 0, onStack(1, intT, intT, longT), false},
		{"Top on the stack", 1, 0, onStack(1, topT), true},
		{"two of Top on the stack", 1, 0, onStack(1, topT, topT), false},
		{"something wide on the stack", 1, 0, onStack(1, longT), false},
		{"Fresh", 1, 1, inLocals(1, fresh(5)), true},
		{"Fresh on the stack", 2, 0, onStack(1, fresh(5)), true},
		{"Fresh of another instruction", 1, 1, inLocals(1, fresh(1)), false},
		{"Fresh of another on the stack", 1, 0, onStack(1, fresh(4)), false},
		{"Fresh of none", 1, 1, inLocals(1, fresh(6)), false},
		{"Fresh of the end", 1, 1, inLocals(1, fresh(10)), false},
		{"Fresh of what is far behind", 1, 1, inLocals(1, fresh(65535)), false},
		{"Fresh in a later local", 1, 3, inLocals(1, longT, fresh(0)), false},
		{"Fresh at the top", 3, 0, onStack(1, longT, fresh(0)), false},
		{"FreshThis where there is none", 1, 1, inLocals(1, thisT), true},
	} {
		b := subject(t)
		r := b.routine(api.Static, "m", "()V", c.stack, c.locals, ret, with(17, 0), ops(87), with(187, b.class("A")), ops(87), ret)
		l := []api.Frame{c.f}
		if c.f.At > 1 && c.f.At != 2 && c.f.At <= 9 {
			l = []api.Frame{inLocals(1), c.f}
		}
		r.frames(l...)
		v := judge(t, b)
		if c.right == (v == broken(api.ErrMap, 0)) {
			t.Errorf("%s: %v", c.what, v)
		}
	}
}

// The map is looked at ahead of handlers, these ahead of instructions, all of them at 0; the first handler that is wrong counts.
func TestBeginInOrder(t *testing.T) {
	bad := func() *routine { return static(t, 1, 0, ops(0, 87, 0), ret) }
	bad().want("an instruction", wrong(1))
	bad().catch(0, 1, 3, "None").want("a handler", broken(api.ErrNoClass, 0))
	bad().catch(0, 1, 3, "None").frames(inLocals(9)).want("the map", broken(api.ErrMap, 0))
	bad().catch(0, 1, 3, "A").catch(0, 1, 3, "None").want("two handlers", broken(api.ErrVerify, 0))
	bad().catch(0, 1, 3, "Ring").catch(0, 1, 3, "A").want("two handlers", broken(api.ErrCircle, 0))
	bad().catch(2, 3, 3, "").catch(2, 3, 3, "Ring").want("the second handler", broken(api.ErrCircle, 0))
	b := subject(t)
	b.routine(api.Static, "a", "()V", 0, 0, ret)
	b.routine(api.Static, "b", "()V", 0, 0, ops(0), ret).catch(1, 2, 0, "A")
	if v := judge(t, b); v != (verdict{api.ErrVerify, 1, 0}) {
		t.Errorf("the second method: %v", v)
	}
}

// A handler takes what is below java/lang/Throwable, wherever its reach is.
func TestHandlersClass(t *testing.T) {
	for name, e := range map[string]api.Errno{
		"": yes, throwableName: yes, "java/lang/Error": yes, "E": yes,
		"A": no, "T": no, objectName: no, "I": no, serializableName: no, stringName: no, "[I": no, "[Ljava/lang/Throwable;": no, "[LNone;": no,
		"None": api.ErrNoClass, "BadError": api.ErrNoClass, "OrphanFace": api.ErrNoClass, "Ring": api.ErrCircle, "Odd": api.ErrChange, "Blind": api.ErrAccess,
	} {
		want := verdict{}
		if e != yes {
			want = broken(e, 0)
		}
		taken := name
		if name == "" {
			taken = throwableName
		}
		r := static(t, 1, 0, ops(0), ret, ops(87), ret).catch(0, 1, 2, name)
		r.frames(onStack(2, obj(taken))).want("handler of "+name, want)
	}
}
