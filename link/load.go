package link

import "jvmcore/api"

// Load: a class is looked at, and all above it.
func (w *World) Load(name string) api.Errno {
	class, isClass := core(name)
	if !isClass {
		return api.OK
	}
	c, there := w.classes[class]
	if !there {
		return api.ErrNoClass
	}
	if c.state == unknown {
		w.look(c)
	}
	return c.wrong
}

// visit: a class that is being looked at.
type visit struct {
	*entry
	right int // how many of what is above it were found right
}

// look: at a class, and at what is above it that is unknown yet. No function calls itself here, since classes may stand above each other in any number.
func (w *World) look(first *entry) {
	first.state = looking
	path := []visit{{entry: first}}
	for len(path) > 0 {
		v := &path[len(path)-1]
		if v.right == len(v.above) {
			v.found(api.OK)
			path = path[:len(path)-1]
			continue
		}
		next, e := w.come(v.above[v.right])
		if e == api.OK && next.state == unknown {
			next.state = looking
			path = append(path, visit{entry: next})
			continue
		}
		if e == api.OK {
			e = v.wrongWith(next)
		}
		if e != api.OK {
			foundOfAll(path, e)
			return
		}
		v.right++
	}
}

// foundOfAll: what is wrong with a class is wrong with each that is looked at for its sake.
func foundOfAll(path []visit, e api.Errno) {
	for _, v := range path {
		v.found(e)
	}
}

// come: to a class from one below it: the class, or what is known to be wrong with it.
func (w *World) come(name string) (*entry, api.Errno) {
	c, there := w.classes[name]
	switch {
	case !there:
		return nil, api.ErrNoClass
	case c.state == looking:
		return nil, api.ErrCircle
	}
	return c, c.wrong
}

// wrongWith: what is wrong between the class and the next above it, which is right by itself.
func (v *visit) wrongWith(next *entry) api.Errno {
	fits := next.is(api.Interface)
	if v.right == 0 {
		fits = !next.is(api.Interface | api.Final)
	}
	switch {
	case !fits:
		return api.ErrChange
	case !next.seen(v.name):
		return api.ErrAccess
	}
	return api.OK
}

// seen: may the class be seen by another?
func (c *entry) seen(from string) bool {
	return c.is(api.Public) || SamePackage(from, c.name)
}
