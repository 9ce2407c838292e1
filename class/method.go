package class

import (
	"cmp"
	"slices"

	"jvmcore/api"
	"jvmcore/code"
)

const (
	closed   = api.Static | api.Final | api.Synchronized | api.Native // none of them goes with Abstract, or with <init>
	codeless = api.Abstract | api.Native                              // a method with one of them has no code, any other has
)

// method: one of the class, by the names of those ahead of it: its error, and, of its code, the place.
func (c *checker) method(m api.Method, told names) (api.Errno, int) {
	s, found := c.signature(m.Name, m.Type)
	if !found {
		return api.ErrIndex, 0
	}
	if e := s.wrongMethod(); e != api.OK {
		return e, 0
	}
	switch {
	case c.wrongMethodFlags(m.Flags, s[nameOf]):
		return api.ErrFlags, 0
	case !told.add(s):
		return api.ErrTwice, 0
	case m.HasCode == (m.Flags&codeless != 0):
		return api.ErrCode, 0
	case !m.HasCode:
		return api.OK, 0
	}
	locals := s.slots()
	if m.Flags&api.Static == 0 {
		locals++
	}
	return c.code(m.Code, locals)
}

func (c *checker) wrongMethodFlags(flags uint16, name string) bool {
	has := func(some uint16) bool { return flags&some != 0 }
	switch {
	case name == clinitName:
		return !has(api.Static) || has(codeless)
	case c.is(api.Interface):
		return name == initName || flags&0x0d3f != api.Public|api.Abstract
	case moreThanOne(flags & access):
		return true
	case has(api.Abstract):
		return name == initName || !c.is(api.Abstract) || has(api.Private|closed)
	case name == initName:
		return has(closed)
	}
	return false
}

// code: that of a method, which needs so many locals at the least.
func (c *checker) code(x api.Code, locals int) (api.Errno, int) {
	if x.MaxLocals < locals {
		return api.ErrLength, 0
	}
	l, e, place := code.Decode(x.Bytes)
	if e != api.OK {
		return e, place
	}
	if e, place := code.Check(l, c.Pool, x.MaxLocals); e != api.OK {
		return e, place
	}
	begins := func(at int) bool {
		_, found := slices.BinarySearchFunc(l, at, func(i api.Ins, at int) int { return cmp.Compare(i.At, at) })
		return found
	}
	for k, h := range x.Handlers {
		if !begins(h.From) || !begins(h.Target) || !begins(h.To) && h.To != len(x.Bytes) || h.From >= h.To {
			return api.ErrTarget, k
		}
		if h.Type != 0 && !c.Has(int(h.Type), api.ClassRef) {
			return api.ErrIndex, k
		}
	}
	return api.OK, 0
}
