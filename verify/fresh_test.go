package verify

import (
	"testing"

	"jvmcore/api"
)

// scene: a method of the subject whose instructions need its pool.
type scene struct {
	*built
}

func newScene(t *testing.T) scene { return scene{subject(t)} }

func (s scene) make(class string) string { return with(187, s.class(class)) }

// init: a call of <init>.
func (s scene) init(class, of string) string {
	return with(183, s.ref(api.MethodRef, class, initName, of))
}

func (s scene) special(class, of string) string {
	return with(183, s.ref(api.MethodRef, class, "f", of))
}

func (s scene) put(class, name, of string) string {
	return with(181, s.ref(api.FieldRef, class, name, of))
}

// static: a method without what it is of. maker: <init>.
func (s scene) static(stack, locals int, code ...string) *routine {
	return s.routine(api.Static, "m", "()V", stack, locals, code...)
}

func (s scene) maker(of string, stack, locals int, code ...string) *routine {
	return s.routine(0, initName, of, stack, locals, code...)
}

func TestNew(t *testing.T) {
	s := newScene(t)
	s.routine(api.Static, "m", "()LNone;", 2, 0, s.make("None"), ops(89), s.init("None", "()V"), ops(176)).want("made", fine)
	s = newScene(t)
	s.routine(api.Static, "m", "()LNone;", 2, 0, s.make("None"), ops(176)).want("given unmade", wrong(3))
	s = newScene(t)
	s.static(1, 0, s.make("None"), ops(87), ret).want("dropped", fine)
	s = newScene(t)
	s.static(1, 0, s.make("B"), s.init("A", "()V"), ret).want("by <init> of what is above it", wrong(3))
	s = newScene(t)
	s.static(1, 0, s.make("A"), s.init("B", "()V"), ret).want("by <init> of what is below it", wrong(3))
	s = newScene(t)
	s.static(1, 0, s.make("T"), s.init("T", "()V"), ret).want("of this class", fine)
	s = newScene(t)
	s.static(1, 0, s.make("T"), s.init("A", "()V"), ret).want("of this class, by that above", wrong(3))
	s = newScene(t)
	s.static(2, 0, s.make("A"), ops(89), s.init("A", "()V"), s.init("A", "()V"), ret).want("made twice", wrong(7))
	s = newScene(t)
	s.static(0, 0, s.make("A"), ret).want("no room", wrong(0))
	s = newScene(t)
	s.static(4, 0, s.make("A"), ops(3, 9), s.init("A", "(IJ)V"), ret).want("with what it takes", fine)
	s = newScene(t)
	s.static(4, 0, s.make("A"), ops(3, 3), s.init("A", "(IJ)V"), ret).want("with less", wrong(5))
	s = newScene(t)
	s.static(4, 0, s.make("A"), ops(89), s.init("A", "(LA;)V"), ret).want("handed to itself", wrong(4))
	s = newScene(t)
	s.static(4, 0, s.make("A"), ops(89), s.init("A", "(LNone;)V"), ret).want("what it takes is looked at first", wrong(4))
	s = newScene(t)
	s.static(4, 0, ops(1, 1), s.init("A", "(LNone;)V"), ret).want("nothing that is Fresh", wrong(2))
	s = newScene(t)
	s.routine(api.Static, "m", "(LA;)V", 4, 1, ops(1, 42), s.init("A", "(LNone;)V"), ret).want("what it takes is wrong", broken(api.ErrNoClass, 2))
}

// What is not made can be stored, loaded, compared and locked, and nothing else.
func TestFreshIsNoObject(t *testing.T) {
	for _, c := range []struct {
		what, code string
		right      bool
	}{
		{"stored", ops(75, 42, 87), true}, {"locked", ops(89, 194, 195), true}, {"doubled", ops(89, 87, 87), true},
		{"cast", ops(192, 0, 5), false}, {"is it of", ops(193, 0, 5), false}, {"thrown", ops(191), false}, {"length", ops(190), false},
	} {
		s := newScene(t)
		s.static(3, 1, s.make("E"), c.code, ret)
		b := s.built
		if k := b.class("T"); k != 5 {
			t.Fatalf("the class has index %d", k)
		}
		want := wrong(3)
		if c.right {
			want = fine
		}
		if v := judge(t, b); v != want {
			t.Errorf("%s: %v, want %v", c.what, v, want)
		}
	}
	s := newScene(t)
	s.static(3, 0, s.make("T"), with(180, s.ref(api.FieldRef, "T", "x", "I")), ops(87), ret).want("a field", wrong(3))
	s = newScene(t)
	s.static(3, 0, s.make("T"), ops(3), s.put("T", "x", "I"), ret).want("its field is set", wrong(4))
	s = newScene(t)
	s.static(3, 0, s.make("T"), with(182, s.ref(api.MethodRef, "T", "f", "()V")), ret).want("a method", wrong(3))
	s = newScene(t)
	s.static(3, 0, s.make("T"), with(179, s.ref(api.FieldRef, "T", "o", "Ljava/lang/Object;")), ret).want("a static field", wrong(3))
	s = newScene(t)
	s.static(3, 0, s.make("T"), ops(3), with(189, s.class("T")), ops(95, 3, 95, 83), ret).want("into an array", wrong(10))
}

// <init> makes all that are of its place, and no other.
func TestAllOfOnePlace(t *testing.T) {
	// 0 ret; 1 new A, 4 pop, 5 ret; 6 new A, 9 pop, 10 ret; 11 invokespecial; 14 ret
	one, two := fresh(1), fresh(6)
	a := obj("A")
	for _, c := range []struct {
		what          string
		before, after api.Frame
	}{
		{"in a local", api.Frame{Locals: types(one), Stack: types(one)}, api.Frame{Locals: types(a)}},
		{"in locals", api.Frame{Locals: types(one, longT, one), Stack: types(one)}, api.Frame{Locals: types(a, longT, a)}},
		{"on the stack", api.Frame{Stack: types(one, intT, one, one)}, api.Frame{Stack: types(a, intT, a)}},
		{"of another place", api.Frame{Locals: types(two, one), Stack: types(two, one, one)}, api.Frame{Locals: types(two, a), Stack: types(two, a)}},
		{"FreshThis stays", api.Frame{Locals: types(thisT, one), Stack: types(thisT, one)}, api.Frame{Locals: types(thisT, a), Stack: types(thisT)}},
	} {
		s := newScene(t)
		m := s.static(5, 5, ret, s.make("A"), ops(87), ret, s.make("A"), ops(87), ret, s.init("A", "()V"), ret)
		c.before.At, c.after.At = 11, 14
		m.frames(inLocals(1), inLocals(6), c.before, c.after).want(c.what, fine)
		c.after = c.before
		c.after.At, c.after.Stack = 14, c.before.Stack[:len(c.before.Stack)-1]
		m.frames(inLocals(1), inLocals(6), c.before, c.after).want(c.what+", still Fresh", wrong(14))
	}
}

// Where 187 is come to again, what it made the last time is lost in locals, and may not be on the stack.
func TestNewAgain(t *testing.T) {
	loop := func(locals, stack []api.VType) *routine {
		s := newScene(t)
		// 0 return; 1 nop, 2 nop, 3 new A, 6 pop, 7 aload_0, 8 pop, 9 return
		m := s.static(4, 3, ret, ops(0, 0), s.make("A"), ops(87, 42, 87), ret)
		return m.frames(api.Frame{At: 1, Locals: locals, Stack: stack})
	}
	loop(types(obj("A")), nil).want("another thing in the local", fine)
	loop(types(fresh(3)), nil).want("its own in the local", wrong(7))
	loop(types(obj("A"), fresh(3)), nil).want("its own in another local", fine)
	loop(types(obj("A")), types(fresh(3))).want("its own on the stack", wrong(3))
	loop(types(obj("A")), types(obj("A"), fresh(3), intT)).want("its own among the stack", wrong(3))
	loop(types(fresh(3)), types(fresh(3))).want("its own in both", wrong(3))
	// two places do not disturb each other
	s := newScene(t)
	s.static(3, 2, s.make("A"), ops(75), s.make("A"), ops(76, 42), s.init("A", "()V"), ops(43), s.init("A", "()V"), ret).want("two places", fine)
	s = newScene(t)
	s.static(3, 2, s.make("A"), s.make("A"), s.init("A", "()V"), s.init("A", "()V"), ret).want("two on the stack", fine)
	// a branch back with one that is not made yet
	s = newScene(t)
	back := s.static(3, 1, ops(1, 75), s.make("A"), ops(75), jump(167, 6, 2))
	back.frames(inLocals(2)).want("forgotten", fine)
	back.frames(inLocals(2, fresh(2))).want("at first it is none", wrong(2))
}

func TestInit(t *testing.T) {
	s := newScene(t)
	s.maker("()V", 1, 1, ops(42), s.init("A", "()V"), ret).want("above", fine)
	s = newScene(t)
	s.maker("(I)V", 1, 2, ops(42), s.init("T", "()V"), ret).want("its own", fine)
	s = newScene(t)
	s.maker("()V", 1, 1, ops(42), s.init(objectName, "()V"), ret).want("what is above that", wrong(1))
	s = newScene(t)
	s.maker("()V", 1, 1, ops(42), s.init("B", "()V"), ret).want("another", wrong(1))
	s = newScene(t)
	s.maker("()V", 1, 1, ops(42), s.init("None", "()V"), ret).want("one that is missing", wrong(1))
	s = newScene(t)
	s.maker("()V", 1, 1, ops(42), s.init("[LT;", "()V"), ret).want("an array", wrong(1))
	s = newScene(t)
	s.maker("()V", 1, 1, ops(42), s.init("A", "()V"), ops(42), s.init("A", "()V"), ret).want("twice", wrong(5))
	s = newScene(t)
	s.maker("()V", 2, 1, ops(42, 42), s.init("A", "()V"), s.init("A", "()V"), ret).want("twice from the stack", wrong(5))
	s = newScene(t)
	s.maker("(LT;)V", 2, 2, ops(42, 42), s.init("T", "(LT;)V"), ret).want("handed to itself", wrong(2))
	s = newScene(t)
	s.maker("()V", 1, 1, ret).want("never", wrong(0))
	s = newScene(t)
	s.maker("()V", 1, 1, ops(1, 75), ret).want("never, and forgotten", wrong(2))
	s = newScene(t)
	s.maker("()V", 1, 2, ops(42, 76, 1, 75, 43), s.init("A", "()V"), ret).want("from another local", fine)
	s = newScene(t)
	s.maker("()V", 1, 1, ops(1, 191)).want("thrown out of", fine)
	s = newScene(t)
	s.maker("()V", 1, 1, ops(42), s.init("A", "()V"), ops(42), with(179, s.ref(api.FieldRef, "T", "t", "LT;")), ret).want("this is of its class then", fine)
	s = newScene(t)
	s.maker("()V", 3, 3, ops(42, 76, 42, 42, 42), s.init("A", "()V"), ops(43, 176)).want("gives", wrong(9))
	for _, x := range types(intT, topT, nullT, obj("A"), obj("T"), anyT, floatT) {
		s = newScene(t)
		s.static(1, 0, ret, s.init("A", "()V"), ret).frames(onStack(1, x)).want("no Fresh", wrong(1))
	}
	s = newScene(t)
	s.static(1, 0, s.init("A", "()V"), ret).want("nothing", wrong(0))
}

// All of FreshThis is made at once.
func TestInitMakesAll(t *testing.T) {
	this := obj("T")
	for _, class := range []string{"A", "T"} {
		s := newScene(t)
		m := s.maker("()V", 4, 3, ops(42, 76, 42, 3, 42), s.init(class, "()V"), ret)
		m.frames(api.Frame{At: 8, Locals: types(this, this), Stack: types(this, intT)}).want("made", fine)
		m.frames(api.Frame{At: 8, Locals: types(this, thisT), Stack: types(this, intT)}).want("FreshThis in a local", wrong(8))
		m.frames(api.Frame{At: 8, Locals: types(this, this), Stack: types(thisT, intT)}).want("FreshThis on the stack", wrong(8))
		m.frames(api.Frame{At: 8, Locals: types(this, obj("A")), Stack: types(obj("A"), intT)}).want("as what is above", fine)
	}
	// where FreshThis comes from a frame alone, outside <init>
	s := newScene(t)
	m := s.static(2, 2, ret, s.init("A", "()V"), ret)
	m.frames(api.Frame{At: 1, Locals: types(topT, thisT), Stack: types(thisT, thisT)}, api.Frame{At: 4, Locals: types(topT, this), Stack: types(this)}).want("outside <init>", fine)
	s = newScene(t)
	s.static(2, 2, ret, ret).frames(inLocals(1, thisT)).want("half made outside <init>", fine)
}

// A frame tells by a local whether the state is half made.
func TestHalfMade(t *testing.T) {
	// 0 aload_0, 1 iconst_0, 2 ifeq 5, 5 invokespecial, 8 return
	run := func(f api.Frame) *routine {
		s := newScene(t)
		f.At = 5
		return s.maker("()V", 2, 2, ops(42, 3), jump(153, 2, 5), s.init("A", "()V"), ret).frames(f)
	}
	run(api.Frame{Locals: types(thisT), Stack: types(thisT)}).want("in the local", fine)
	run(api.Frame{Locals: nil, Stack: types(thisT)}).want("on the stack alone", wrong(2))
	run(api.Frame{Locals: types(topT, thisT), Stack: types(thisT)}).want("in another local", wrong(2))
	run(api.Frame{Locals: types(thisT), Stack: types(topT)}).want("not on the stack", wrong(5))
	// forgotten in locals, without a frame: half made all the same
	s := newScene(t)
	s.maker("()V", 1, 1, ops(42, 1, 75), s.init("A", "()V"), ret).want("too little room", wrong(1))
	s = newScene(t)
	s.maker("()V", 2, 1, ops(42, 1, 75), s.init("A", "()V"), ret).want("on the stack alone", fine)
	// a frame that no code comes to, without FreshThis, is not half made
	s = newScene(t)
	s.maker("()V", 1, 1, ops(1, 191), ret).frames(inLocals(2)).want("a frame that is made", fine)
	s = newScene(t)
	s.maker("()V", 1, 1, ops(1, 191), ret).frames(inLocals(2, thisT)).want("a frame that is half made", wrong(2))
	s = newScene(t)
	s.maker("()V", 1, 1, ops(1, 191), ret).frames(onStack(2, thisT)).want("FreshThis on the stack of a frame", fine)
	// made, then back to where it was not
	s = newScene(t)
	s.maker("()V", 1, 1, ops(42), s.init("A", "()V"), jump(167, 4, 0)).frames(inLocals(0, thisT)).want("back", wrong(4))
}

func TestPutField(t *testing.T) {
	early := func(class, name, of string, value string) *routine {
		s := newScene(t)
		s.field(api.Static|api.Private, "own", "I")
		return s.maker("()V", 3, 1, ops(42), value, s.put(class, name, of), ops(42), s.init("A", "()V"), ret)
	}
	early("T", "x", "I", ops(3)).want("its own", fine)
	early("T", "y", "LT;", ops(1)).want("its own, of a class", fine)
	early("T", "own", "I", ops(3)).want("its own that is Static", fine)
	early("T", "y", "LT;", ops(42)).want("this is no Object yet", wrong(2))
	early("T", "x", "J", ops(9)).want("of another descriptor", wrong(2))
	early("T", "z", "I", ops(3)).want("one that it has not", wrong(2))
	early("A", "x", "I", ops(3)).want("of what is above", wrong(2))
	early("None", "x", "I", ops(3)).want("of a class that is missing", wrong(2))
	early("T", "x", "I", ops(11)).want("of another type", wrong(2))
	early(objectName, "x", "I", ops(3)).want("of java/lang/Object", wrong(2))
	late := func(class string, x api.VType) *routine {
		s := newScene(t)
		return s.static(3, 0, ret, ops(3), s.put(class, "z", "I"), ret).frames(onStack(1, x))
	}
	late("T", obj("T")).want("made", fine)
	late("A", obj("T")).want("made, of what is above", fine)
	late("B", obj("T")).want("made, of another", wrong(2))
	late("I", obj("T")).want("made, of an interface", fine)
	late("None", obj("T")).want("made, of a class that is missing", broken(api.ErrNoClass, 2))
	late("None", nullT).want("Null", fine)
	late("T", intT).want("no reference", wrong(2))
	s := newScene(t)
	s.static(3, 1, ops(42, 3), s.put("T", "x", "I"), ret).want("static has no this", wrong(0))
	s = newScene(t)
	s.static(3, 1, ret, ops(42, 3), s.put("T", "x", "I"), ret).frames(inLocals(1, thisT)).want("FreshThis outside <init>", fine)
}

func TestSpecial(t *testing.T) {
	call := func(class string, x api.VType) *routine {
		s := newScene(t)
		return s.static(3, 0, ret, s.special(class, "()V"), ret).frames(onStack(1, x))
	}
	this := obj("T")
	for class, e := range map[string]api.Errno{
		"T": yes, "A": yes, objectName: yes,
		"B": no, "E": no, stringName: no, "I": no, cloneableName: no, "[LT;": no, "[I": no,
		"None": api.ErrNoClass, "Ring": api.ErrCircle, "Odd": api.ErrChange, "Blind": api.ErrAccess, "OrphanFace": api.ErrNoClass,
	} {
		want := verdict{}
		if e != yes {
			want = broken(e, 1)
		}
		call(class, this).want("of "+class, want)
		call(class, nullT).want("Null, of "+class, want)
	}
	call("A", obj("A")).want("not of this class", wrong(1))
	call("T", obj("A")).want("not of this class", wrong(1))
	call(objectName, anyT).want("not of this class", wrong(1))
	call("A", obj("None")).want("of a class that is missing", broken(api.ErrNoClass, 1))
	call("None", obj("Ring")).want("the class first", broken(api.ErrNoClass, 1))
	call("I", obj("Ring")).want("an interface first", wrong(1))
	call("A", thisT).want("FreshThis", wrong(1))
	call("A", intT).want("no reference", wrong(1))
	s := newScene(t)
	s.static(3, 0, ret, s.special("None", "(LRing;)V"), ret).frames(onStack(1, this, obj("A"))).want("what it takes first", broken(api.ErrCircle, 1))
	s = newScene(t)
	s.static(3, 0, ret, s.special("None", "(I)V"), ret).frames(onStack(1, intT)).want("the class ahead of what it is of", broken(api.ErrNoClass, 1))
	s = newScene(t)
	s.static(3, 0, ret, s.special("A", "(I)V"), ret).frames(onStack(1, intT)).want("too few", wrong(1))
	// this class has the interface, but that is not above it
	b := newBuilt(t, "U", "A", open, "I")
	b.routine(0, "m", "()V", 1, 1, ops(42), with(183, b.ref(api.MethodRef, "I", "f", "()V")), ret).want("its own interface", wrong(1))
	// an interface's own code
	f := newBuilt(t, "U", objectName, openFace, "I")
	f.routine(api.Static, "<clinit>", "()V", 1, 0, ops(1), with(183, f.ref(api.MethodRef, "U", "f", "()V")), ret).want("the interface itself", fine)
	f = newBuilt(t, "U", objectName, openFace, "I")
	f.routine(api.Static, "<clinit>", "()V", 1, 0, ops(1), with(183, f.ref(api.MethodRef, "I", "f", "()V")), ret).want("an interface above it", wrong(1))
}

// Of members nothing is looked for: they may be missing, of other kinds, or hidden.
func TestMembersAreNotLookedFor(t *testing.T) {
	s := newScene(t)
	secret := newBuilt(t, "q/Secret", objectName, api.SuperFlag).field(api.Private, "f", "I").bare(api.Private|api.Native, "m", "()V")
	this := obj("q/Secret")
	s.static(3, 0, ret,
		with(180, s.ref(api.FieldRef, "q/Secret", "f", "I")), ops(87),
		with(178, s.ref(api.FieldRef, "q/Secret", "f", "I")), ops(87),
		with(178, s.ref(api.FieldRef, "None", "f", "I")), ops(87),
		with(184, s.ref(api.MethodRef, "None", "m", "()V")),
		with(184, s.ref(api.MethodRef, "q/Secret", "m", "()V")),
		s.make("q/Secret"), s.init("q/Secret", "()V"), ret).frames(onStack(1, this))
	w := worldOf(t, append(neighbours(t), secret, s.built)...)
	if v := verdictOn(w, "T"); v != fine {
		t.Errorf("%v", v)
	}
}
