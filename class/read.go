package class

import (
	"jvmcore/api"
	"jvmcore/consts"
	"jvmcore/pool"
	"jvmcore/wire"
)

// reader: reads a class file.
type reader struct {
	wire.Reader
	pool consts.Pool
}

// Read: the class of a class file, and 0; or the error, and its place.
func Read(s string) (api.Class, api.Errno, int) {
	r := reader{Reader: wire.NewReader(s)}
	c := r.class()
	r.Finish()
	if e, place := r.Err(); e != api.OK {
		return api.Class{}, e, place
	}
	return c, api.OK, 0
}

func (r *reader) class() api.Class {
	if r.Number(4) != magic {
		r.Fail(api.ErrMagic, 0)
	}
	c := api.Class{Minor: r.Uint16(), Major: r.Uint16()}
	if !knownVersion(c.Minor, c.Major) {
		r.Fail(api.ErrVersion, versionPlace)
	}
	c.Pool = r.constants()
	r.pool = c.Pool
	c.Flags, c.This, c.Super = r.Uint16(), r.Uint16(), r.Uint16()
	c.Interfaces = list(r, r.Uint16)
	c.Fields = list(r, r.field)
	c.Methods = list(r, r.method)
	r.attributes(r.none())
	return c
}

// constants: the pool, whose errors have their places counted from its own beginning.
func (r *reader) constants() []api.Const {
	l, size, e, place := pool.Read(r.Rest())
	if e != api.OK {
		r.Fail(e, r.At()+place)
	}
	r.Take(size)
	return l
}

// list: how many there are, and then each, by what reads one.
func list[T any](r *reader, read func() T) []T {
	var l []T
	for left := r.Uint16(); left > 0 && r.Good(); left-- {
		l = append(l, read())
	}
	return l
}

func (r *reader) field() api.Field {
	f := api.Field{Flags: r.Uint16(), Name: r.Uint16(), Type: r.Uint16()}
	r.attributes(r.once(valueAttribute, func(int) { f.Value = r.Uint16() }))
	return f
}

func (r *reader) method() api.Method {
	m := api.Method{Flags: r.Uint16(), Name: r.Uint16(), Type: r.Uint16()}
	r.attributes(r.once(codeAttribute, func(int) { m.HasCode, m.Code = true, r.code() }))
	return m
}

func (r *reader) code() api.Code {
	c := api.Code{MaxStack: int(r.Uint16()), MaxLocals: int(r.Uint16())}
	c.Bytes = r.Take(int(r.Number(4)))
	c.Handlers = list(r, r.handler)
	r.attributes(r.once(mapAttribute, func(length int) { c.Map = r.Take(length) }))
	return c
}

func (r *reader) handler() api.Handler {
	return api.Handler{From: int(r.Uint16()), To: int(r.Uint16()), Target: int(r.Uint16()), Type: r.Uint16()}
}

// attribute: what is done with one: it is told where it began, its name and its length, and reads what is in it.
type attribute func(from int, name string, length int)

// attributes: how many there are, and then each, by what is done with it.
func (r *reader) attributes(do attribute) {
	for left := r.Uint16(); left > 0 && r.Good(); left-- {
		from := r.At()
		name, found := r.pool.Text(int(r.Uint16()))
		if !found {
			r.Fail(api.ErrIndex, from)
		}
		do(from, name, int(r.Number(4)))
	}
}

// none: where no attribute counts, all are passed over.
func (r *reader) none() attribute {
	return func(_ int, _ string, length int) { r.Take(length) }
}

// once: where attributes of one name count, the first of them is read by what is told of it, a second may not be, and others are passed over.
func (r *reader) once(counts string, read func(length int)) attribute {
	pass, had := r.none(), false
	return func(from int, name string, length int) {
		if name != counts {
			pass(from, name, length)
			return
		}
		if had {
			r.Fail(api.ErrTwice, from)
		}
		had = true
		end := r.At() + length
		read(length)
		if r.At() != end {
			r.Fail(api.ErrLength, from)
		}
	}
}
