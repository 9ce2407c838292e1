package maps

import (
	"math"

	"jvmcore/api"
	"jvmcore/consts"
	"jvmcore/wire"
)

// writer: writes frames.
type writer struct {
	bytes   []byte
	indexOf func(class string) (int, bool)
}

// Write: frames as a map, each in the shortest form by the one ahead, and 0; or the error, and the number of the first frame that is wrong.
func Write(l []api.Frame, p []api.Const, first []api.VType) (string, api.Errno, int) {
	if len(l) > math.MaxUint16 {
		return "", api.ErrLength, 0
	}
	w := writer{indexOf: indexes(p)}
	w.number(len(l))
	ahead := beginning(first)
	for k, f := range l {
		if e := w.frame(f, ahead); e != api.OK {
			return "", e, k
		}
		ahead = f
	}
	return string(w.bytes), api.OK, 0
}

// indexes: tells the index of a class's first ClassRef, by its name. The pool is gone through once, and only if a class is asked for.
func indexes(p consts.Pool) func(class string) (int, bool) {
	var known map[string]int
	return func(class string) (int, bool) {
		if known == nil {
			known = firstRefs(p)
		}
		index, found := known[class]
		return index, found
	}
}

// firstRefs: the index of the first ClassRef of each name, as far as two bytes reach.
func firstRefs(p consts.Pool) map[string]int {
	refs := map[string]int{}
	for index := range min(len(p), math.MaxUint16+1) {
		class, found := p.Class(index)
		if !found {
			continue
		}
		if _, had := refs[class]; !had {
			refs[class] = index
		}
	}
	return refs
}

// frame: a frame, by that ahead.
func (w *writer) frame(f, ahead api.Frame) api.Errno {
	if f.At <= ahead.At || f.At > math.MaxUint16 || len(f.Locals) > math.MaxUint16 || len(f.Stack) > math.MaxUint16 {
		return api.ErrMap
	}
	delta := f.At - ahead.At - 1
	kept := shared(f.Locals, ahead.Locals)
	tag := formOf(len(f.Stack), len(ahead.Locals)-kept, len(f.Locals)-kept, delta)
	w.bytes = append(w.bytes, byte(tag))
	if tag >= oneFar {
		w.number(delta)
	}
	if tag == full {
		kept = 0
		w.number(len(f.Locals))
	}
	if e := w.types(f.Locals[kept:]); e != api.OK {
		return e
	}
	if tag == full {
		w.number(len(f.Stack))
	}
	return w.types(f.Stack)
}

// shared: with how many types both lists begin alike.
func shared(a, b []api.VType) int {
	n := min(len(a), len(b))
	for k := range n {
		if a[k] != b[k] {
			return k
		}
	}
	return n
}

// formOf: the tag of the first form that a frame can have: by the height of its stack, how many of the last locals ahead it has not, how many others it has instead, and its delta.
func formOf(height, less, more, delta int) int {
	near := delta < one
	switch as := less == 0 && more == 0; {
	case as && height == 0 && near:
		return same + delta
	case as && height == 1 && near:
		return one + delta
	case as && height == 1:
		return oneFar
	case height == 0 && more == 0 && less <= mostApart:
		return sameFar - less
	case height == 0 && less == 0 && more <= mostApart:
		return sameFar + more
	}
	return full
}

// types: one behind the other.
func (w *writer) types(l []api.VType) api.Errno {
	for _, t := range l {
		if e := w.vtype(t); e != api.OK {
			return e
		}
	}
	return api.OK
}

// vtype: a type.
func (w *writer) vtype(t api.VType) api.Errno {
	w.bytes = append(w.bytes, t.Tag)
	switch {
	case t.Tag == api.Object:
		index, found := w.indexOf(t.Name)
		if !found {
			return api.ErrIndex
		}
		w.number(index)
	case t.Tag == api.Fresh:
		if t.At < 0 || t.At > math.MaxUint16 {
			return api.ErrMap
		}
		w.number(t.At)
	case t.Tag > api.Fresh:
		return api.ErrMap
	}
	return api.OK
}

// number: in two bytes.
func (w *writer) number(n int) {
	w.bytes = wire.Append(w.bytes, 2, uint64(n))
}
