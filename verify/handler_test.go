package verify

import (
	"testing"

	"jvmcore/api"
)

// guarded: a static method (I) with code up to 3, a handler at 4: pop, return.
func guarded(t *testing.T, code string, stack int) *routine {
	return subject(t).routine(api.Static, "m", "(I)V", stack, 2, code, ret, ops(87), ret).takes(intT)
}

func caught(name string, locals ...api.VType) api.Frame {
	return api.Frame{At: 4, Locals: locals, Stack: types(obj(name))}
}

func TestHandlers(t *testing.T) {
	nops := ops(0, 0, 0)
	any := throwableName
	guarded(t, nops, 1).catch(0, 3, 4, "").frames(caught(any, intT)).want("any", fine)
	guarded(t, nops, 1).catch(0, 3, 4, "").frames(caught("java/lang/Error", intT)).want("any, as an Error", wrong(0))
	guarded(t, nops, 1).catch(0, 3, 4, "E").frames(caught("E", intT)).want("E", fine)
	guarded(t, nops, 1).catch(0, 3, 4, "E").frames(caught("java/lang/Error", intT)).want("E as an Error", fine)
	guarded(t, nops, 1).catch(0, 3, 4, "E").frames(caught(objectName, intT)).want("E as an Object", fine)
	guarded(t, nops, 1).catch(0, 3, 4, "E").frames(caught("I", intT)).want("E as an interface", fine)
	guarded(t, nops, 1).catch(0, 3, 4, "E").frames(caught("None", intT)).want("E as what is missing", broken(api.ErrNoClass, 0))
	guarded(t, nops, 1).catch(0, 3, 4, "java/lang/Error").frames(caught("E", intT)).want("an Error as E", wrong(0))
	guarded(t, nops, 1).catch(0, 3, 4, "").frames(caught(any)).want("fewer locals", fine)
	guarded(t, nops, 1).catch(0, 3, 4, "").frames(caught(any, floatT)).want("another local", wrong(0))
	guarded(t, nops, 1).catch(0, 3, 4, "").frames(caught(any, intT, intT)).want("a local more", wrong(0))
	guarded(t, nops, 1).catch(0, 3, 4, "").frames(inLocals(4, intT)).want("nothing on the stack", wrong(0))
	guarded(t, nops, 2).catch(0, 3, 4, "").frames(onStack(4, obj(any), obj(any))).want("two on the stack", wrong(0))
	guarded(t, nops, 1).catch(0, 3, 4, "").want("no frame", wrong(0))
	guarded(t, nops, 1).catch(0, 3, 4, "").frames(inLocals(3, intT)).want("a frame elsewhere", wrong(0))
}

// A handler counts from its first place on, and at its end no more.
func TestReach(t *testing.T) {
	store := ops(1, 75, 0) // at 2 the first local is Null
	frame := caught(throwableName, intT)
	guarded(t, store, 1).catch(0, 2, 4, "").frames(frame).want("up to the store", fine)
	guarded(t, store, 1).catch(0, 3, 4, "").frames(frame).want("and one more", wrong(2))
	guarded(t, store, 1).catch(2, 3, 4, "").frames(frame).want("behind it", wrong(2))
	guarded(t, store, 1).catch(2, 3, 4, "").frames(caught(throwableName, nullT)).want("behind it, as it is", fine)
	guarded(t, store, 1).catch(1, 3, 4, "").frames(caught(throwableName, nullT)).want("at the store, as it will be", wrong(1))
	guarded(t, store, 1).catch(0, 6, 4, "").frames(frame).want("up to the end", wrong(2))
	guarded(t, ops(0, 0, 0), 1).catch(4, 6, 4, "").frames(frame).want("itself", fine)
	guarded(t, ops(0, 0, 0), 1).catch(3, 4, 4, "").frames(frame).want("at the return", fine)
	// half of what was wide
	wide := func() *routine {
		return subject(t).routine(api.Static, "m", "(J)V", 1, 2, ops(3, 60, 0), ret, ops(87), ret).takes(longT)
	}
	wide().catch(0, 2, 4, "").frames(caught(throwableName, longT)).want("wide", fine)
	wide().catch(0, 3, 4, "").frames(caught(throwableName, longT)).want("cut", wrong(2))
	wide().catch(2, 3, 4, "").frames(caught(throwableName, topT, intT)).want("cut, as it is", fine)
	wide().catch(0, 3, 4, "").frames(caught(throwableName)).want("cut, of no matter", fine)
}

// Of an instruction handlers are looked at behind the frame and ahead of what it does.
func TestHandlersTurn(t *testing.T) {
	bad := ops(87, 0, 0)
	guarded(t, bad, 1).catch(0, 3, 4, "").want("ahead of the instruction", wrong(0))
	guarded(t, bad, 1).catch(0, 3, 4, "E").frames(caught("Ring", intT)).want("ahead of the instruction", broken(api.ErrCircle, 0))
	guarded(t, ops(0, 87, 0), 1).catch(2, 3, 4, "E").frames(caught("Ring", intT)).want("the instruction is ahead of its reach", wrong(1))
	m := subject(t).routine(api.Static, "m", "(LA;)V", 1, 1, ops(0, 0, 0), ret, ops(87), ret).takes(obj("A")).catch(1, 2, 4, "")
	m.frames(inLocals(1, obj("Ring")), caught(throwableName, obj("None"))).want("behind the frame", broken(api.ErrCircle, 1))
	m.frames(inLocals(1), caught(throwableName, obj("A"))).want("by the frame", wrong(1))
	m.frames(inLocals(1, anyT), caught(throwableName, anyT)).want("by the frame", fine)
}

func TestTwoHandlers(t *testing.T) {
	two := func(first, second string) *routine {
		m := subject(t).routine(api.Static, "m", "()V", 1, 1, ops(0, 0, 0), ret, ops(87), ret, ops(87), ret)
		return m.catch(0, 3, 4, first).catch(0, 3, 6, second)
	}
	two("E", "").frames(onStack(4, obj("E")), onStack(6, obj(throwableName))).want("both", fine)
	two("E", "").frames(onStack(4, obj("Ring")), onStack(6, obj("None"))).want("the first", broken(api.ErrCircle, 0))
	two("", "E").frames(onStack(4, obj("Ring")), onStack(6, obj("None"))).want("the first", broken(api.ErrCircle, 0))
	two("E", "").frames(onStack(4, obj("E")), onStack(6, obj("None"))).want("the second", broken(api.ErrNoClass, 0))
	two("E", "").frames(onStack(4, obj("E"))).want("the second without a frame", wrong(0))
	two("E", "E").frames(onStack(4, obj("E")), onStack(6, obj("E"))).want("of the same class", fine)
}

// Without any stack nothing can be caught, whatever the frame; but only where code is in reach.
func TestHandlersRoom(t *testing.T) {
	m := static(t, 0, 0, ops(0, 0, 0), ret, ret)
	m.catch(1, 2, 4, "").frames(inLocals(4)).want("in reach", wrong(1))
	static(t, 0, 0, ops(0, 0, 0), ret, ret).catch(1, 2, 4, "").want("no frame", wrong(1))
	static(t, 0, 0, ops(0, 0, 0), ret, ret).frames(inLocals(4)).want("none", fine)
	m = subject(t).routine(api.Static, "m", "(LA;)V", 0, 1, ops(0, 0, 0), ret, ret).takes(obj("A"))
	m.catch(1, 2, 4, "").frames(inLocals(4, obj("Ring"))).want("ahead of the locals", wrong(1))
}

// Locals may change and change back: what could go on once is looked at again.
func TestHandlersAgain(t *testing.T) {
	m := func(of byte, catch api.VType) *routine {
		r := subject(t).routine(api.Static, "m", "(I)V", 1, 1, ops(3, 59, 11, of, 0), ret, ops(87), ret).takes(intT)
		return r.catch(0, 5, 6, "").frames(api.Frame{At: 6, Locals: types(catch), Stack: types(obj(throwableName))})
	}
	m(67, topT).want("of no matter", fine)
	m(67, intT).want("another now", wrong(4))
	branch := subject(t).routine(api.Static, "m", "(I)V", 1, 1, ops(0), jump(167, 1, 7), ret, ops(87), ret, ops(0), ret).takes(intT)
	branch.catch(0, 8, 5, "").frames(api.Frame{At: 4, Locals: types(intT)}, api.Frame{At: 5, Locals: types(intT), Stack: types(obj(throwableName))}, inLocals(7))
	branch.want("a frame that has less", wrong(7))
	// 0 return; 1 nop, 2 new, 5 pop, 6 return; 7 pop, 8 return: 187 takes what it made the last time from the local
	s := newScene(t)
	again := s.static(1, 1, ret, ops(0), s.make("A"), ops(87), ret, ops(87), ret).catch(1, 6, 7, "")
	again.frames(inLocals(1, fresh(2)), api.Frame{At: 7, Locals: types(fresh(2)), Stack: types(obj(throwableName))}).want("made again", wrong(5))
	// 0 aload_0, 1 invokespecial, 4 return; 5 pop, 6 goto 6: behind <init> there is no FreshThis
	s = newScene(t)
	made := s.maker("()V", 1, 1, ops(42), s.init("A", "()V"), ret, ops(87), jump(167, 6, 6))
	half := []api.Frame{{At: 5, Locals: types(thisT), Stack: types(obj(throwableName))}, inLocals(6, thisT)}
	made.catch(0, 4, 5, "").frames(half...).want("up to <init>", fine)
	made.catch(0, 5, 5, "").frames(half...).want("behind <init>", wrong(4))
}

// In <init> a handler must have FreshThis in a local while it is not made.
func TestHandlersHalfMade(t *testing.T) {
	m := func(f api.Frame) *routine {
		b := subject(t)
		call := with(183, b.ref(api.MethodRef, "A", initName, "()V"))
		r := b.routine(0, initName, "()V", 1, 2, ops(0, 42), call, ret, ops(87), jump(167, 7, 7))
		f.At, f.Stack = 6, types(obj(throwableName))
		return r.catch(0, 2, 6, "").frames(f, api.Frame{At: 7, Locals: f.Locals})
	}
	m(inLocals(6, thisT)).want("half made", fine)
	m(inLocals(6)).want("not", wrong(0))
	m(inLocals(6, topT, thisT)).want("elsewhere", wrong(0))
	m(inLocals(6, obj("T"))).want("made", wrong(0))
}
