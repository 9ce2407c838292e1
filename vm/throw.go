package vm

import "jvmcore/heap"

const errorName = lang + "Error"

// handler: takes what instructions of these numbers throw, up to the last but not that one.
type handler struct {
	first, last, target int
	class               string // of what it takes; empty: anything
}

// thingOf: what is thrown. It is made while all that the instruction took is still on the stack; where there is no room for it, it is the one that was made for that.
func (s step) thingOf(x stop) heap.Ref {
	switch x {
	case given:
		return s.top(0, 1).ref
	case outOfMemory:
		return s.noRoom
	}
	r, ok := s.makeThing(x.class())
	if !ok {
		return s.noRoom
	}
	return r
}

// throw: a thing goes to the first handler that may take it, from the last frame outwards; if there is none, the thread dies of it.
func (s step) throw(thing heap.Ref) {
	for len(s.frames) > 0 {
		f := s.last()
		if target, has := s.handlerOf(f, thing); has {
			f.handle(target, thing)
			return
		}
		s.leave()
		if f.starts != nil {
			thing = s.fail(f.starts, thing)
		}
	}
	s.finish(died, s.kindOf(thing).name)
}

// handlerOf: where code of a frame goes on that takes the thing. Where the code of one that initialises a class has not begun, since what is above is needed first, it takes nothing.
func (v *VM) handlerOf(f *frame, thing heap.Ref) (int, bool) {
	if f.starts != nil && f.needs != nil {
		return 0, false
	}
	for _, h := range f.method.handlers {
		if within(f.at, h.first, h.last-1) && (h.class == "" || v.isOf(thing, h.class)) {
			return h.target, true
		}
	}
	return 0, false
}

// handle: code goes on at a target, with the thing alone on the stack.
func (f *frame) handle(target int, thing heap.Ref) {
	f.at, f.needs = target, nil
	f.stack = append(f.stack[:0], value{ref: thing})
}

// fail: a thing leaves the frame that initialises a class: what is thrown from there on, which is an error in any case.
func (s step) fail(c *class, thing heap.Ref) heap.Ref {
	c.state, c.by = failed, nil
	if s.isOf(thing, errorName) {
		return thing
	}
	s.making = append(s.making, thing)
	instead := s.thingOf(inInitializer)
	s.making = s.making[:len(s.making)-1]
	return instead
}
