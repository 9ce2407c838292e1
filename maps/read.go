package maps

import (
	"jvmcore/api"
	"jvmcore/consts"
	"jvmcore/wire"
)

// reader: reads frames.
type reader struct {
	wire.Reader
	pool consts.Pool
}

// Read: the frames of a map, by a pool and the locals at first; or the error, and its place.
func Read(s string, p []api.Const, first []api.VType) ([]api.Frame, api.Errno, int) {
	r := reader{wire.NewReader(s), p}
	l := r.frames(beginning(first))
	if e, place := r.Err(); e != api.OK {
		return nil, e, place
	}
	return l, api.OK, 0
}

// frames: all of them, up to the end of the bytes.
func (r *reader) frames(ahead api.Frame) []api.Frame {
	var l []api.Frame
	for range r.Uint16() {
		ahead = r.frame(ahead)
		if !r.Good() {
			return nil
		}
		l = append(l, ahead)
	}
	r.Finish()
	return l
}

// frame: the next one, by that ahead.
func (r *reader) frame(ahead api.Frame) api.Frame {
	from := r.At()
	tag := int(r.Uint8())
	if tag >= noForm && tag < oneFar {
		r.Fail(api.ErrMap, from)
	}
	f := api.Frame{At: ahead.At + 1 + r.delta(tag)}
	kept, more := len(ahead.Locals), 0
	switch {
	case tag == full:
		kept, more = 0, int(r.Uint16())
	case tag > sameFar:
		more = tag - sameFar
	case tag > oneFar:
		kept -= sameFar - tag
	}
	if kept < 0 {
		r.Fail(api.ErrMap, from)
	}
	if r.Good() {
		f.Locals = r.types(ahead.Locals[:kept], more)
		f.Stack = r.types(nil, r.height(tag))
	}
	return f
}

// delta: of the frame of a tag.
func (r *reader) delta(tag int) int {
	switch {
	case tag < one:
		return tag
	case tag < noForm:
		return tag - one
	}
	return int(r.Uint16())
}

// height: how many types the stack has in the frame of a tag.
func (r *reader) height(tag int) int {
	switch {
	case tag == full:
		return int(r.Uint16())
	case tag >= one && tag <= oneFar:
		return 1
	}
	return 0
}

// types: a new list: those that are kept, and n more that are read.
func (r *reader) types(kept []api.VType, n int) []api.VType {
	l := append([]api.VType(nil), kept...)
	for range n {
		t := r.vtype()
		if !r.Good() {
			return nil
		}
		l = append(l, t)
	}
	return l
}

// vtype: a type.
func (r *reader) vtype() api.VType {
	from := r.At()
	t := api.VType{Tag: r.Uint8()}
	switch {
	case t.Tag == api.Object:
		t.Name = r.class(from)
	case t.Tag == api.Fresh:
		t.At = int(r.Uint16())
	case t.Tag > api.Fresh:
		r.Fail(api.ErrMap, from)
	}
	return t
}

// class: the name of one, whose type began at from. A ClassRef that leads to no text is one all the same.
func (r *reader) class(from int) string {
	index := int(r.Uint16())
	if !r.pool.Has(index, api.ClassRef) {
		r.Fail(api.ErrIndex, from)
	}
	name, _ := r.pool.Class(index)
	return name
}
