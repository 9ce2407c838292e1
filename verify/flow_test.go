package verify

import (
	"fmt"
	"testing"

	"jvmcore/api"
)

// branches: each with what it takes.
func branches() map[byte][]api.VType {
	m := map[byte][]api.VType{167: nil, 200: nil}
	for op := byte(153); op <= 158; op++ {
		m[op] = types(intT)
	}
	for op := byte(159); op <= 164; op++ {
		m[op] = types(intT, intT)
	}
	return m
}

// jump: a branch from a place to a target.
func jump(op byte, at, target int) string {
	to := target - at
	if op == 200 {
		return ops(op, byte(to>>24), byte(to>>16), byte(to>>8), byte(to))
	}
	return ops(op, byte(to>>8), byte(to))
}

// ends: does code not go on behind it?
func ends(op byte) bool { return op == 167 || op == 200 }

// leap: 0 return; 1 return; 2 the branch; then return: to 1 or to the last, with these on the stack and an Int beneath.
func leap(t *testing.T, op byte, takes []api.VType, back bool, left ...api.VType) *routine {
	size := len(jump(op, 0, 0))
	target := 2 + size
	if back {
		target = 1
	}
	m := static(t, 4, 1, ret, ret, jump(op, 2, target), ret)
	l := []api.Frame{onStack(1, left...), onStack(2, append(types(intT), takes...)...)}
	if !back || ends(op) {
		l = append(l, onStack(2+size, left...))
	}
	return m.frames(l...)
}

func TestBranches(t *testing.T) {
	for op, takes := range branches() {
		for _, back := range []bool{true, false} {
			what := fmt.Sprintf("%d, back %v", op, back)
			leap(t, op, takes, back, intT).want(what, fine)
			leap(t, op, takes, back, topT).want(what, fine)
			leap(t, op, takes, back).want(what+": too few are left", wrong(2))
			leap(t, op, takes, back, floatT).want(what+": another is left", wrong(2))
			leap(t, op, takes, back, intT, intT).want(what+": more are left", wrong(2))
			for k := range takes {
				for _, x := range types(topT, floatT, nullT, anyT, thisT, longT) {
					leap(t, op, replaced(takes, k, x), back, intT).want(what+": takes another", wrong(2))
				}
			}
		}
	}
}

func TestBranchesOfReferences(t *testing.T) {
	right := types(nullT, thisT, obj("None"), obj("[I"), fresh(0))
	bad := types(topT, intT, floatT, longT, doubleT)
	for _, op := range []byte{165, 166, 198, 199} {
		n := 2
		if op > 197 {
			n = 1
		}
		for k := range n {
			for j, x := range append(append([]api.VType{}, right...), bad...) {
				takes := replaced(types(nullT, nullT)[:n], k, x)
				b := subject(t)
				m := b.routine(api.Static, "m", "()V", 4, 1, with(187, b.class("A")), ret, jump(op, 4, 7), ret)
				m.frames(onStack(4, append(types(intT), takes...)...), onStack(7, intT))
				want := fine
				if j >= len(right) {
					want = wrong(4)
				}
				m.want(fmt.Sprintf("%d with %v", op, takes), want)
			}
		}
	}
}

// A branch needs a frame where it goes, even if that is the next instruction; and one behind it only where code doesn't go on there.
func TestTargetsWithoutFrame(t *testing.T) {
	static(t, 1, 0, ops(3), jump(153, 1, 4), ret).want("ifeq, on", wrong(1))
	static(t, 1, 0, ops(3), jump(153, 1, 4), ret).frames(inLocals(4)).want("ifeq, on", fine)
	static(t, 1, 0, jump(167, 0, 3), ret).want("goto, on", wrong(0))
	static(t, 1, 0, jump(167, 0, 0)).want("goto itself", wrong(0))
	static(t, 1, 0, jump(167, 0, 0)).frames(inLocals(0)).want("goto itself", fine)
	static(t, 1, 0, jump(200, 0, 0)).frames(inLocals(0)).want("goto_w itself", fine)
	static(t, 1, 0, ops(0, 3), jump(154, 2, 0), ret).frames(inLocals(0)).want("back", fine)
	static(t, 1, 0, ops(0, 3), jump(154, 2, 1), ret).frames(inLocals(0)).want("back to none", wrong(2))
	// the state that goes on is that behind what is taken
	static(t, 2, 0, ops(3, 4), jump(153, 2, 5), ops(87), ret).frames(onStack(5, intT)).want("one is left", fine)
	static(t, 2, 0, ops(3, 4), jump(153, 2, 5), ops(87), ret).frames(onStack(5, intT, intT)).want("two are left", wrong(2))
}

func TestSwitches(t *testing.T) {
	// 0 iconst_0, 1 tableswitch: all others to 27, 5 to 24, 6 to 25, 7 to 26; 28 bytes up to its end
	table := ops(3, 170, 0, 0) + ops(0, 0, 0, 30, 0, 0, 0, 5, 0, 0, 0, 7) + ops(0, 0, 0, 27, 0, 0, 0, 28, 0, 0, 0, 29) + ret + ret + ret + ret
	// 0 iconst_0, 1 lookupswitch: all others to 31, -1 to 28, 9 to 29
	keys := ops(3, 171, 0, 0) + ops(0, 0, 0, 29, 0, 0, 0, 2) + ops(255, 255, 255, 255, 0, 0, 0, 27, 0, 0, 0, 9, 0, 0, 0, 28) + ret + ret + ret
	for name, c := range map[string]struct {
		code    string
		targets []int // in the order in which they are looked at
	}{
		"table": {table, []int{31, 28, 29, 30}}, "keys": {keys, []int{30, 28, 29}},
	} {
		frames := func(bad int, e api.VType) []api.Frame {
			var l []api.Frame
			for at := 28; at < 28+len(c.targets); at++ {
				f := inLocals(at)
				if at == bad {
					f = inLocals(at, e)
				}
				l = append(l, f)
			}
			return l
		}
		run := func() *routine { return static(t, 2, 1, c.code) }
		run().frames(frames(0, intT)...).want(name, fine)
		for _, bad := range c.targets {
			run().frames(frames(bad, intT)...).want(name+": a target", wrong(1))
		}
		for k, one := range c.targets {
			for _, other := range c.targets[k+1:] {
				m := subject(t).routine(api.Static, "m", "(LA;)V", 2, 1, c.code).takes(obj("A"))
				l := frames(one, obj("Ring"))
				l[other-28] = inLocals(other, obj("None"))
				m.frames(l...).want(name+": the first of two", broken(api.ErrCircle, 1))
			}
		}
		run().frames(frames(0, intT)[1:]...).want(name+": no frame", wrong(1))
		for _, x := range types(floatT, longT, nullT, topT) {
			m := static(t, 2, 1, ret+c.code[1:])
			m.frames(append([]api.Frame{onStack(1, x)}, frames(0, intT)...)...).want(name+": no Int", wrong(1))
		}
		static(t, 2, 1, ops(0)+c.code[1:]).frames(frames(0, intT)...).want(name+": nothing", wrong(1))
	}
}

// Behind these code does not go on: what is there must have a frame, which need not fit.
func TestEnds(t *testing.T) {
	for _, c := range []struct {
		of   string
		code string
		end  bool
	}{
		{"()V", ops(177), true}, {"()I", ops(3, 172), true}, {"()J", ops(9, 173), true}, {"()F", ops(11, 174), true}, {"()D", ops(14, 175), true}, {"()LA;", ops(1, 176), true}, {"()V", ops(1, 191), true},
		{"()V", ops(0), false}, {"()V", ops(3), false}, {"()V", ops(1, 194), false}, {"()V", ops(1, 87), false},
	} {
		n := len(c.code)
		tail := ops(1, 191)
		last := subject(t).routine(api.Static, "m", c.of, 2, 1, c.code)
		bare := subject(t).routine(api.Static, "m", c.of, 2, 1, c.code, tail)
		framed := subject(t).routine(api.Static, "m", c.of, 2, 1, c.code, tail).frames(inLocals(n, intT))
		if c.end {
			last.want("the last", fine)
			bare.want("no frame behind", wrong(n))
			framed.want("a frame behind", fine)
		} else {
			last.want("the last", wrong(n-1))
			bare.want("no frame behind", fine)
			framed.want("a frame behind", wrong(n))
		}
	}
}

// A branch at the end that may go on is wrong there, behind what it does itself.
func TestBehindTheLast(t *testing.T) {
	static(t, 1, 0, ops(3), jump(153, 1, 0)).frames(inLocals(0)).want("ifeq at the end", wrong(1))
	m := subject(t).routine(api.Static, "m", "(LA;)V", 1, 1, ops(3), jump(153, 1, 0)).takes(obj("A"))
	m.frames(inLocals(0, obj("Ring"))).want("a frame at 0 that does not fit", broken(api.ErrCircle, 0))
	m = subject(t).routine(api.Static, "m", "(LA;)V", 1, 1, jump(167, 0, 4), ret, ops(3), jump(153, 5, 3)).takes(obj("A"))
	m.frames(inLocals(3, obj("Ring")), inLocals(4, obj("A"))).want("the target ahead of the end", broken(api.ErrCircle, 5))
}

func TestFromAhead(t *testing.T) {
	take := func(locals ...api.VType) *routine {
		return subject(t).routine(api.Static, "m", "(LB;)V", 1, 2, ops(0, 0), ret).takes(obj("B")).frames(inLocals(1, locals...))
	}
	take(obj("B")).want("the same", fine)
	take(obj("A")).want("what is above", fine)
	take().want("less", fine)
	take(obj("C")).want("what is below", wrong(1))
	take(obj("None")).want("a class that is missing", broken(api.ErrNoClass, 1))
	take(obj("B"), intT).want("more", wrong(1))
	// the state is the frame's then, no more
	m := subject(t).routine(api.Static, "m", "(LB;)LB;", 1, 1, ops(0, 42, 176)).takes(obj("B"))
	m.frames(inLocals(1, obj("B"))).want("as it was", fine)
	m.frames(inLocals(1, obj("A"))).want("as less", wrong(2))
	m.frames(inLocals(1)).want("as nothing", wrong(1))
	m.frames(inLocals(1, obj("Ring"))).want("as another", broken(api.ErrCircle, 1))
	// with a frame that no code comes to, and without
	static(t, 1, 0, ret, ops(0), ret).want("no frame", wrong(1))
	static(t, 1, 0, ret, ops(87), ret).frames(onStack(1, intT)).want("a frame", fine)
	static(t, 1, 0, ret, ops(87), ret).frames(inLocals(1)).want("a frame", wrong(1))
	static(t, 1, 0, ops(0), ret).frames(onStack(0, intT)).want("at the first", wrong(0))
}

func TestReturns(t *testing.T) {
	numbers := map[byte]api.VType{172: intT, 173: longT, 174: floatT, 175: doubleT}
	given := map[string]api.VType{"I": intT, "Z": intT, "B": intT, "C": intT, "S": intT, "J": longT, "F": floatT, "D": doubleT, "LA;": obj("A"), "[I": obj("[I"), "V": topT}
	for of, x := range given {
		for op := byte(172); op <= 177; op++ {
			right := numbers[op] == x && x != topT || op == 176 && x.Tag == api.Object || op == 177 && of == "V"
			for _, y := range types(intT, longT, floatT, doubleT, obj("A"), obj("[I"), anyT) {
				want := wrong(3)
				if right && (op == 177 || fits(y, x)) {
					want = fine
				}
				m := subject(t).routine(api.Static, "m", "()"+of, 4, 0, jump(167, 0, 0), ops(op))
				m.frames(inLocals(0), onStack(3, y)).want(fmt.Sprintf("%d with %v, gives %s", op, y, of), want)
			}
		}
	}
}

// What 176 gives must be below what the method gives; more on the stack is of no matter.
func TestGiveObject(t *testing.T) {
	give := func(of string, l ...api.VType) *routine {
		return subject(t).routine(api.Static, "m", "()"+of, 3, 0, jump(167, 0, 0), ops(176)).frames(inLocals(0), onStack(3, l...))
	}
	give("LA;", obj("B")).want("what is below", fine)
	give("LB;", obj("A")).want("what is above", wrong(3))
	give("LI;", obj("A")).want("an interface", fine)
	give("LI;", obj("[I")).want("an array as an interface", wrong(3))
	give("LNone;", nullT).want("Null", fine)
	give("LNone;", obj("A")).want("a class that is missing", broken(api.ErrNoClass, 3))
	give("[LA;", obj("[LB;")).want("an array", fine)
	give("Ljava/lang/Object;", thisT).want("FreshThis", wrong(3))
	give("LA;", longT, obj("A")).want("more beneath", fine)
	give("LA;").want("nothing", wrong(3))
	give("I", obj("A")).want("a number's method", wrong(3))
	give("V", obj("A")).want("a method that gives nothing", wrong(3))
}

// 191 needs what can be thrown.
func TestThrow(t *testing.T) {
	for _, c := range []struct {
		x api.VType
		e api.Errno
	}{{obj("E"), yes}, {obj(throwableName), yes}, {nullT, yes}, {obj("A"), no}, {anyT, no}, {obj("I"), no}, {obj("[I"), no}, {intT, no}, {thisT, no}, {obj("None"), api.ErrNoClass}, {obj("Ring"), api.ErrCircle}} {
		want := verdict{}
		if c.e != yes {
			want = broken(c.e, 1)
		}
		static(t, 2, 0, ret, ops(191)).frames(onStack(1, c.x)).want(fmt.Sprint(c.x), want)
	}
	static(t, 2, 0, ret, ops(191)).frames(inLocals(1)).want("nothing", wrong(1))
}

func TestMonitors(t *testing.T) {
	for _, op := range []byte{194, 195} {
		for _, x := range types(nullT, thisT, obj("None"), obj("[I"), topT, intT, longT, floatT, doubleT) {
			want := fine
			if x.Tag < 5 {
				want = wrong(1)
			}
			static(t, 2, 0, ret, ops(op), ret).frames(onStack(1, x), inLocals(2)).want(fmt.Sprint(op, x), want)
		}
	}
}

// What is taken is looked at from the top down.
func TestTakesInOrder(t *testing.T) {
	call := func(l ...api.VType) *routine {
		b := subject(t)
		return b.routine(api.Static, "m", "()V", 4, 0, ret, with(184, b.ref(api.MethodRef, "A", "f", "(LRing;LNone;LOdd;)V")), ret).frames(onStack(1, l...))
	}
	a := obj("A")
	call(nullT, nullT, nullT).want("all of Null", fine)
	call(a, a, a).want("the last", broken(api.ErrChange, 1))
	call(a, a, nullT).want("the second", broken(api.ErrNoClass, 1))
	call(a, nullT, nullT).want("the first", broken(api.ErrCircle, 1))
	call(a, intT, nullT).want("a number ahead of it", wrong(1))
	call(intT, a, nullT).want("a number behind it", broken(api.ErrNoClass, 1))
	call(a).want("two too few", broken(api.ErrChange, 1))
	call(nullT).want("two too few", wrong(1))
	call(a, nullT).want("one too few", broken(api.ErrNoClass, 1))
	b := subject(t)
	b.routine(api.Static, "m", "()V", 4, 0, ret, with(182, b.ref(api.MethodRef, "Ring", "f", "(LNone;)V")), ret).frames(onStack(1, a, a)).want("what it takes ahead of what it is of", broken(api.ErrNoClass, 1))
	b = subject(t)
	b.routine(api.Static, "m", "()V", 4, 0, ret, with(181, b.ref(api.FieldRef, "Ring", "f", "LNone;")), ret).frames(onStack(1, a, a)).want("the value ahead of what it is of", broken(api.ErrNoClass, 1))
	static(t, 4, 0, ret, ops(83), ret).frames(onStack(1, a, floatT, intT)).want("83", wrong(1))
}
