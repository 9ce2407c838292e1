package vm

import (
	"jvmcore/api"
	"jvmcore/heap"
)

// called: a method that an index of a pool leads to.
type called struct {
	*method
	class  string          // the one that is told there
	chosen map[int]*method // by the kinds of things: what was selected once
}

// calledAt: that of an index of the class that runs.
func (s step) calledAt(index int, face bool) (*called, api.Errno) {
	c := s.method.class
	if m, had := c.calls[index]; had {
		return m, api.OK
	}
	class, told := c.memberAt(index)
	m, e := s.world.Method(c.name, class, told.name, told.of, face)
	if e != api.OK {
		return nil, e
	}
	x := &called{method: s.methodOf(m), class: class, chosen: map[int]*method{}}
	c.calls[index] = x
	return x, api.OK
}

// methodOf: a member that was found.
func (v *VM) methodOf(m api.Member) *method {
	return v.class(m.Class).methods[signature{m.Name, m.Type}]
}

// call: 182 to 185.
func (s step) call(i api.Ins) stop {
	c, e := s.calledAt(i.A, i.Op == opInterface)
	switch {
	case e != api.OK:
		return ofLink(e)
	case c.is(api.Static) != (i.Op == opStatic):
		return classChange
	case i.Op == opStatic:
		if x := s.initialise(c.method.class); x != goesOn {
			return x
		}
		return s.enter(c.method)
	}
	thing := s.top(c.slots-1, 1).ref
	if thing == heap.None {
		return nullPointer
	}
	m, e := s.choose(i.Op, c, thing)
	if e != api.OK {
		return ofLink(e)
	}
	return s.enter(m)
}

// choose: the method that is called of a thing.
func (s step) choose(op uint8, c *called, thing heap.Ref) (*method, api.Errno) {
	if op == opSpecial {
		return s.special(c.method)
	}
	number := s.things.Kind(thing)
	if m, had := c.chosen[number]; had {
		return m, api.OK
	}
	name := s.kinds[number].name
	if op == opInterface {
		if is, e := s.world.Under(name, c.class); e != api.OK || !is {
			return nil, api.ErrChange
		}
	}
	m, e := s.selected(c.method, name)
	if e == api.OK {
		c.chosen[number] = m
	}
	return m, e
}

func (v *VM) selected(m *method, class string) (*method, api.Errno) {
	x, e := v.world.Selected(m.Member, class)
	if e != api.OK {
		return nil, e
	}
	return v.methodOf(x), api.OK
}

// special: what 183 calls: a method as it stands, or what would be called of a thing of the class above.
func (s step) special(m *method) (*method, api.Errno) {
	c := s.method.class
	if m.Name != initName && !m.is(api.Private) && c.is(api.SuperFlag) && m.class != c {
		if is, e := s.world.Under(c.super, m.Class); e == api.OK && is {
			return s.selected(m, c.super)
		}
	}
	if m.is(api.Abstract) {
		return nil, api.ErrAbstract
	}
	return m, api.OK
}

// enter: the method runs, with what it takes, in a frame of its own; a native one at once.
func (s step) enter(m *method) stop {
	switch {
	case m.is(api.Native):
		return s.native(m)
	case s.isFull():
		return stackOverflow
	}
	from := len(s.stack) - m.slots
	f := newFrame(m, s.stack[from:]...)
	if m.is(api.Synchronized) && !s.guard(f) {
		return blocked
	}
	s.drop(m.slots)
	s.frames = append(s.frames, f)
	return stays
}
