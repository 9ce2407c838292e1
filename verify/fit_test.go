package verify

import (
	"strings"
	"testing"

	"jvmcore/api"
)

// between: the verdict on code that goes on from one frame, at 1, to another, at 2. Things are made at 3 and at 7.
func between(t *testing.T, one, other api.Frame) verdict {
	t.Helper()
	b := subject(t)
	made := with(187, b.class("A")) + ops(87)
	r := b.routine(api.Static, "m", "()V", 4, 4, ret, ops(0), ret, made, made, ret)
	one.At, other.At = 1, 2
	r.frames(one, other, inLocals(3))
	return judge(t, b)
}

// localsFit, stackFit: the verdict where these come to those.
func localsFit(t *testing.T, one, other []api.VType) verdict {
	t.Helper()
	return between(t, api.Frame{Locals: one}, api.Frame{Locals: other})
}

func stackFit(t *testing.T, one, other []api.VType) verdict {
	t.Helper()
	return between(t, api.Frame{Stack: one}, api.Frame{Stack: other})
}

func types(l ...api.VType) []api.VType { return l }

func TestKindsFit(t *testing.T) {
	kinds := types(topT, intT, floatT, doubleT, longT, nullT, thisT, obj("A"), fresh(3), fresh(7))
	for i, one := range kinds {
		for j, other := range kinds {
			want := wrong(2)
			if i == j || other == topT || one == nullT && other.Tag == api.Object {
				want = fine
			}
			if v := stackFit(t, types(one), types(other)); v != want {
				t.Errorf("%v to %v on the stack: %v, want %v", one, other, v, want)
			}
			if one == thisT && other != thisT {
				want = wrong(2) // half made
			}
			if v := localsFit(t, types(one), types(other)); v != want {
				t.Errorf("%v to %v in a local: %v, want %v", one, other, v, want)
			}
		}
	}
}

// The classes of a pair of types, and what is told where the one comes to the other: yes, no, or the error.
const (
	yes = api.OK
	no  = api.ErrVerify
)

func TestClassesFit(t *testing.T) {
	deep := func(n int, of string) string { return strings.Repeat("[", n) + of }
	for _, c := range []struct {
		a, b string
		e    api.Errno
	}{
		// the same, or java/lang/Object: nothing is looked at
		{"None", "None", yes}, {"Orphan", "Orphan", yes}, {"Ring", "Ring", yes}, {"[LNone;", "[LNone;", yes}, {"[I", "[I", yes},
		{"None", objectName, yes}, {"Ring", objectName, yes}, {"I", objectName, yes}, {"[I", objectName, yes}, {"[LNone;", objectName, yes}, {objectName, objectName, yes},
		// the other must be right
		{"A", "None", api.ErrNoClass}, {"A", "Orphan", api.ErrNoClass}, {"A", "OrphanFace", api.ErrNoClass}, {"A", "Ring", api.ErrCircle}, {"A", "Odd", api.ErrChange}, {"A", "Blind", api.ErrAccess},
		{"I", "None", api.ErrNoClass}, {"[I", "None", api.ErrNoClass}, {"[LA;", "Ring", api.ErrCircle}, {objectName, "None", api.ErrNoClass},
		// an interface
		{"A", "I", yes}, {"B", "I", yes}, {"I", "J", yes}, {objectName, "I", yes}, {"None", "I", yes}, {"Ring", "J", yes}, {"OrphanFace", "I", yes},
		{"[I", "I", no}, {"[LB;", "I", no}, {"[[I", "J", no}, {"[LNone;", "I", no},
		{"[I", cloneableName, yes}, {"[I", serializableName, yes}, {"[LNone;", cloneableName, yes}, {"[[LA;", serializableName, yes}, {"A", cloneableName, yes}, {"None", serializableName, yes},
		// a class
		{"B", "A", yes}, {"C", "A", yes}, {"C", "B", yes}, {"A", "B", no}, {"A", "C", no}, {"T", "A", yes}, {"A", "T", no}, {"A", stringName, no}, {"E", throwableName, yes}, {throwableName, "E", no},
		{"I", "A", no}, {"I", "B", no}, {objectName, "A", no}, {"[I", "A", no}, {"[LB;", "A", no}, {"[LNone;", "A", no}, {"[[LA;", "A", no},
		{"None", "A", api.ErrNoClass}, {"Orphan", "A", api.ErrNoClass}, {"OrphanFace", "A", api.ErrNoClass}, {"Ring", "A", api.ErrCircle}, {"Odd", "A", api.ErrChange}, {"Blind", "A", api.ErrAccess},
		// both are wrong: the other counts
		{"None", "Ring", api.ErrCircle}, {"Ring", "None", api.ErrNoClass}, {"Odd", "Blind", api.ErrAccess}, {"Blind", "Odd", api.ErrChange}, {"[LRing;", "Orphan", api.ErrNoClass},
		// arrays
		{"A", "[I", no}, {"A", "[LA;", no}, {"None", "[LNone;", no}, {"A", "[LNone;", no}, {"Ring", "[[I", no}, {objectName, "[I", no}, {"I", "[LI;", no}, {cloneableName, "[I", no},
		{"[I", "[J", no}, {"[B", "[Z", no}, {"[Z", "[B", no}, {"[C", "[S", no}, {"[I", "[Z", no}, {"[I", "[LA;", no}, {"[LA;", "[I", no}, {"[I", "[Ljava/lang/Object;", no}, {"[I", "[LNone;", no}, {"[LNone;", "[I", no}, {"[I", "[[I", no}, {"[[I", "[I", no},
		{"[LB;", "[LA;", yes}, {"[LC;", "[LA;", yes}, {"[LA;", "[LB;", no}, {"[LA;", "[LI;", yes}, {"[LNone;", "[LI;", yes}, {"[LI;", "[LA;", no}, {"[LNone;", "[Ljava/lang/Object;", yes},
		{"[LA;", "[LNone;", api.ErrNoClass}, {"[LNone;", "[LA;", api.ErrNoClass}, {"[LRing;", "[LA;", api.ErrCircle}, {"[LRing;", "[LNone;", api.ErrNoClass}, {"[LA;", "[LOdd;", api.ErrChange},
		{"[[I", "[Ljava/lang/Object;", yes}, {"[[I", "[Ljava/lang/Cloneable;", yes}, {"[[I", "[Ljava/io/Serializable;", yes}, {"[[I", "[LI;", no}, {"[[I", "[LA;", no}, {"[[I", "[LNone;", api.ErrNoClass}, {"[[I", "[[J", no}, {"[[I", "[[Ljava/lang/Object;", no}, {"[LA;", "[[LA;", no}, {"[Ljava/lang/Object;", "[[I", no},
		{"[[LB;", "[[LA;", yes}, {"[[LA;", "[[LB;", no}, {"[[[LB;", "[[LA;", no}, {"[[LB;", "[[[LA;", no}, {"[[[LB;", "[[Ljava/lang/Cloneable;", yes}, {"[[LNone;", "[[LA;", api.ErrNoClass}, {"[[LA;", "[[LRing;", api.ErrCircle}, {"[[[LA;", "[[LRing;", api.ErrCircle}, {"[[LNone;", "[[[LA;", no},
		{deep(255, "I"), deep(254, "Ljava/lang/Object;"), yes}, {deep(255, "I"), deep(255, "J"), no}, {deep(255, "LB;"), deep(255, "LA;"), yes}, {deep(255, "LA;"), deep(255, "LB;"), no}, {deep(255, "LA;"), deep(255, "LNone;"), api.ErrNoClass}, {deep(255, "I"), deep(254, "LI;"), no}, {deep(254, "I"), deep(255, "I"), no},
	} {
		want := verdict{}
		if c.e != yes {
			want = broken(c.e, 2)
		}
		if v := localsFit(t, types(obj(c.a)), types(obj(c.b))); v != want {
			t.Errorf("%s to %s in a local: %v, want %v", c.a, c.b, v, want)
		}
		if v := stackFit(t, types(obj(c.a)), types(obj(c.b))); v != want {
			t.Errorf("%s to %s on the stack: %v, want %v", c.a, c.b, v, want)
		}
	}
}

// Null fits any class, even if there is none; what is no reference fits no class, and none is looked at.
func TestNothingIsLookedAt(t *testing.T) {
	for _, name := range []string{"None", "Ring", "[LNone;", "I", "A"} {
		if v := localsFit(t, types(nullT), types(obj(name))); v != fine {
			t.Errorf("Null to %s: %v", name, v)
		}
		for _, one := range types(topT, intT, floatT, thisT, fresh(3)) {
			if v := stackFit(t, types(one), types(obj(name))); v != wrong(2) {
				t.Errorf("%v to %s: %v", one, name, v)
			}
			if v := stackFit(t, types(obj(name)), types(one)); one != topT && v != wrong(2) {
				t.Errorf("%s to %v: %v", name, one, v)
			}
		}
	}
}

func TestStatesFit(t *testing.T) {
	a, none, ring := obj("A"), obj("None"), obj("Ring")
	frame := func(locals []api.VType, stack ...api.VType) api.Frame { return api.Frame{Locals: locals, Stack: stack} }
	for _, c := range []struct {
		what       string
		one, other api.Frame
		e          api.Errno
	}{
		{"fewer locals", frame(types(a, intT, a)), frame(types(a)), yes},
		{"no locals", frame(types(a, longT)), frame(nil), yes},
		{"more locals", frame(types(a)), frame(types(a, intT)), no},
		{"more locals that are Top", frame(types(a)), frame(types(a, topT, topT, topT)), yes},
		{"wide ones", frame(types(longT, doubleT)), frame(types(longT, doubleT)), yes},
		{"behind a wide one", frame(types(longT, intT)), frame(types(topT, topT, intT)), yes},
		{"half of a wide one", frame(types(longT, intT)), frame(types(topT, intT)), no},
		{"a wide one where two are", frame(types(intT, topT)), frame(types(longT)), no},
		{"a wide one where none is", frame(types(topT, intT)), frame(types(longT)), no},
		{"a wide one ahead", frame(types(topT, longT, intT)), frame(types(topT, longT, intT)), yes},
		{"a stack", frame(nil, intT, longT, a), frame(nil, intT, longT, anyT), yes},
		{"a stack with less", frame(nil, intT, intT), frame(nil, intT), no},
		{"a stack with more", frame(nil, intT), frame(nil, intT, intT), no},
		{"as many slots, other values", frame(nil, intT, intT), frame(nil, longT), no},
		{"as many values, other slots", frame(nil, intT), frame(nil, longT), no},
		{"a stack with Top", frame(nil, intT, longT), frame(nil, topT, topT), yes},
		{"the first local", frame(types(a, a)), frame(types(none, ring)), api.ErrNoClass},
		{"the second local", frame(types(none, a)), frame(types(none, ring)), api.ErrCircle},
		{"a kind ahead of a class", frame(types(intT, a)), frame(types(floatT, ring)), no},
		{"a class ahead of a kind", frame(types(a, intT)), frame(types(ring, floatT)), api.ErrCircle},
		{"locals ahead of the height", frame(types(a), a), frame(types(none)), api.ErrNoClass},
		{"locals ahead of the stack", frame(types(a), a), frame(types(ring), none), api.ErrCircle},
		{"the height ahead of the stack", frame(nil, a), frame(nil, none, ring), no},
		{"the lowest of the stack", frame(nil, a, a), frame(nil, none, ring), api.ErrNoClass},
		{"the highest of the stack", frame(nil, none, a), frame(nil, none, ring), api.ErrCircle},
		{"a kind ahead on the stack", frame(nil, intT, a), frame(nil, floatT, ring), no},
		{"half made ahead of locals", frame(types(a, thisT)), frame(types(none)), no},
		{"half made in both", frame(types(a, thisT)), frame(types(none, thisT)), api.ErrNoClass},
		{"half made elsewhere", frame(types(a, thisT)), frame(types(thisT)), no},
		{"half made on the stack alone", frame(types(thisT), thisT), frame(nil, thisT), no},
		{"FreshThis on the stack is not half made", frame(nil, thisT), frame(nil, thisT), yes},
		{"FreshThis in a local that was none", frame(types(a)), frame(types(thisT)), no},
		{"in two locals, then in one", frame(types(thisT, thisT)), frame(types(topT, thisT)), yes},
	} {
		want := verdict{}
		if c.e != yes {
			want = broken(c.e, 2)
		}
		if v := between(t, c.one, c.other); v != want {
			t.Errorf("%s: %v, want %v", c.what, v, want)
		}
	}
}
