package link

import "jvmcore/api"

// Call: the method that is called of a thing of a class.
func (w *World) Call(from, class, name, of string, face bool, thing string) (api.Member, api.Errno) {
	m, e := w.Method(from, class, name, of, face)
	if e != api.OK {
		return api.Member{}, e
	}
	is, e := w.Under(thing, class)
	switch {
	case e != api.OK:
		return api.Member{}, e
	case !is, m.Flags&api.Static != 0:
		return api.Member{}, api.ErrChange
	}
	return w.selected(m, thing)
}

// selected: what is called of a thing of a right class, where a method is referred to.
func (w *World) selected(m api.Member, thing string) (api.Member, api.Errno) {
	if m.Flags&api.Private != 0 {
		return m, api.OK
	}
	x, found := w.standIn(m, thing)
	switch {
	case !found, x.Flags&api.Abstract != 0:
		return api.Member{}, api.ErrAbstract
	case w.Interface(m.Class) && x.Flags&api.Public == 0:
		return api.Member{}, api.ErrAccess
	}
	return x, api.OK
}

func (w *World) standIn(m api.Member, thing string) (api.Member, bool) {
	for c := range w.upward(w.holder(thing)) {
		if x, found := c.methods.find(signature{m.Name, m.Type}); found && standsFor(x, m) {
			return x, true
		}
	}
	return api.Member{}, false
}

// standsFor: is one called where the other, of the same signature, is referred to?
func standsFor(x, m api.Member) bool {
	if x.Flags&(api.Static|api.Private) != 0 {
		return false
	}
	return x == m || m.Flags&(api.Public|api.Protected) != 0 || SamePackage(x.Class, m.Class)
}
