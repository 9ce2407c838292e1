package link

import (
	"iter"

	"jvmcore/api"
)

// Field, Method: what a reference leads to.
func (w *World) Field(from, class, name, of string) (api.Member, api.Errno) {
	c, e := w.find(from, class)
	if e != api.OK {
		return api.Member{}, e
	}
	m, found := w.field(c, signature{name, of})
	switch {
	case !found:
		return api.Member{}, api.ErrNoField
	case !w.usable(from, m):
		return api.Member{}, api.ErrAccess
	}
	return m, api.OK
}

func (w *World) Method(from, class, name, of string, face bool) (api.Member, api.Errno) {
	c, e := w.find(from, class)
	if e != api.OK {
		return api.Member{}, e
	}
	if c.is(api.Interface) != face {
		return api.Member{}, api.ErrChange
	}
	m, found := w.method(c, signature{name, of})
	switch {
	case !found:
		return api.Member{}, api.ErrNoMethod
	case m.Flags&api.Abstract != 0 && !c.is(api.Abstract):
		return api.Member{}, api.ErrAbstract
	case !w.usable(from, m):
		return api.Member{}, api.ErrAccess
	}
	return m, api.OK
}

// find: the class in which members of a class are looked for, from another.
func (w *World) find(from, name string) (*entry, api.Errno) {
	if e := w.Load(name); e != api.OK {
		return nil, e
	}
	class, _ := core(name)
	if c, there := w.classes[class]; there && !c.seen(from) { // there is none of values' arrays, which all may see
		return nil, api.ErrAccess
	}
	return w.holder(name), api.OK
}

// holder: the class whose members a right class has, which may be an array.
func (w *World) holder(name string) *entry {
	if isArray(name) {
		name = object
	}
	return w.classes[name]
}

// usable: may a member be used from a class?
func (w *World) usable(from string, m api.Member) bool {
	switch {
	case m.Flags&api.Public != 0, from == m.Class:
		return true
	case m.Flags&api.Private != 0:
		return false
	case SamePackage(from, m.Class):
		return true
	}
	return m.Flags&api.Protected != 0 && w.Load(from) == api.OK && !isArray(from) && w.under(from, m.Class)
}

func (w *World) field(c *entry, s signature) (api.Member, bool) {
	for x := range w.reach(c) {
		if m, found := x.fields.find(s); found {
			return m, true
		}
	}
	return api.Member{}, false
}

// method: of an interface java/lang/Object comes last, of a class all above it come first.
func (w *World) method(c *entry, s signature) (api.Member, bool) {
	if s.name == initName {
		return c.methods.find(s)
	}
	first, then := w.upward(c), w.interfaces(c)
	if c.is(api.Interface) {
		first, then = then, first
	}
	if m, found := methodIn(first, s); found {
		return m, true
	}
	return methodIn(then, s)
}

// methodIn: the first of that signature.
func methodIn(l iter.Seq[*entry], s signature) (api.Member, bool) {
	for x := range l {
		if m, found := x.methods.find(s); found {
			return m, true
		}
	}
	return api.Member{}, false
}

// interfaces: those that a class reaches, in that order.
func (w *World) interfaces(c *entry) iter.Seq[*entry] {
	return func(yield func(*entry) bool) {
		for x := range w.reach(c) {
			if x.is(api.Interface) && !yield(x) {
				return
			}
		}
	}
}
