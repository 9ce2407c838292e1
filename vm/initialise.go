package vm

import (
	"jvmcore/api"
	"jvmcore/verify"
)

// The states of a class.
const (
	untouched = iota
	initialising
	initialised
	failed
)

// initialise: a class, where it is needed: code goes on if it is, or if this thread does so already.
func (s step) initialise(c *class) stop {
	if c.state == untouched {
		if e, _, _ := verify.Verify(s.world, c.name); e != api.OK {
			return ofLink(e)
		}
	}
	return s.initialiseVerified(c)
}

// initialiseVerified: Start has verified main's class already, as it tells the error itself.
func (s step) initialiseVerified(c *class) stop {
	switch {
	case c.state == initialised, c.state == initialising && c.by == s.thread:
		return goesOn
	case c.state == initialising:
		return blocked
	case c.state == failed:
		return noClass
	}
	return s.begin(c)
}

// begin: the static fields of a class that was verified are there, and a frame more, that initialises it.
func (s step) begin(c *class) stop {
	if s.isFull() {
		return stackOverflow
	}
	if !s.setStatics(c) {
		c.state = failed
		return outOfMemory
	}
	c.state, c.by = initialising, s.thread
	f := newFrame(c.starter())
	f.starts = c
	if !c.is(api.Interface) {
		f.needs = s.class(c.super)
	}
	s.frames = append(s.frames, f)
	return stays
}

// isFull: has the thread as many frames as it may have?
func (s step) isFull() bool { return len(s.frames) >= s.depth }

// setStatics: the static fields are there, with their values; false if there is no room for a text.
func (v *VM) setStatics(c *class) bool {
	for _, f := range c.told {
		x, ok := v.constant(c, int(f.Value))
		if !ok {
			return false
		}
		of, _ := c.Text(int(f.Type))
		x.bits = narrow(of, x.bits)
		c.statics = append(c.statics, x)
	}
	return true
}

// constant: the value of an index of the pool, 0 or none of index 0; false if there is no room for a text.
func (v *VM) constant(c *class, index int) (value, bool) {
	told := c.At(index)
	if told.Tag != api.StringRef {
		return value{bits: told.Bits}, true
	}
	text, _ := c.Text(int(told.A))
	r, ok := v.textOfPool(text)
	return value{ref: r}, ok
}
