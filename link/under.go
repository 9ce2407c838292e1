package link

import (
	"iter"
	"slices"

	"jvmcore/api"
)

// Under: is what is of one class of the other too?
func (w *World) Under(a, b string) (bool, api.Errno) {
	if e := w.Load(a); e != api.OK {
		return false, e
	}
	if e := w.Load(b); e != api.OK {
		return false, e
	}
	return w.under(a, b), api.OK
}

// under: of two that are right.
func (w *World) under(a, b string) bool {
	switch {
	case a == b, b == object:
		return true
	case !isArray(a):
		return w.classUnder(w.classes[a], b)
	case b == cloneable, b == serializable:
		return true
	case !isArray(b):
		return false
	}
	inA, hasA := inside(a)
	inB, hasB := inside(b)
	return hasA && hasB && w.under(inA, inB)
}

// classUnder: what is no interface can stand above a class by Super alone.
func (w *World) classUnder(c *entry, b string) bool {
	way := w.upward(c)
	if w.Interface(b) {
		way = w.reach(c)
	}
	for x := range way {
		if x.name == b {
			return true
		}
	}
	return false
}

// upward: a class that is right, what is above it, and so on.
func (w *World) upward(c *entry) iter.Seq[*entry] {
	return func(yield func(*entry) bool) {
		at := c
		for yield(at) && len(at.above) > 0 {
			at = w.classes[at.above[0]]
		}
	}
}

// reach: a class that is right, then what is reached of each of its interfaces, in order, then of what is above it. Each is told once: there may be very many ways to one.
func (w *World) reach(c *entry) iter.Seq[*entry] {
	return func(yield func(*entry) bool) {
		told := map[string]struct{}{}
		left := []string{c.name} // the last comes first
		for len(left) > 0 {
			name := left[len(left)-1]
			left = left[:len(left)-1]
			if _, had := told[name]; had {
				continue
			}
			told[name] = struct{}{}
			at := w.classes[name]
			if !yield(at) {
				return
			}
			left = append(left, at.lastFirst()...)
		}
	}
}

// lastFirst: what is above a class: Super, then the interfaces from the last to the first.
func (c *entry) lastFirst() []string {
	l := slices.Clone(c.above)
	if len(l) > 0 {
		slices.Reverse(l[1:])
	}
	return l
}
