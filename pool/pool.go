// Package pool: texts in modified UTF-8, and pools of constants: see shared/doc/01-pool.md.
package pool

import (
	"jvmcore/api"
	"jvmcore/wire"
)

const (
	maxLength = 65535   // of a pool, and of a text in it
	wordBits  = 1 << 32 // the Bits of an Integer or Float are below this
)

// reader: reads the constants of a pool.
type reader struct {
	wire.Reader
	count int
	list  []api.Const
}

// Read: the pool with which s begins, and how many bytes it has; or the error, and its place.
func Read(s string) ([]api.Const, int, api.Errno, int) {
	r := reader{Reader: wire.NewReader(s)}
	r.pool()
	if e, place := r.Err(); e != api.OK {
		return nil, 0, e, place
	}
	return r.list, r.At(), api.OK, 0
}

func (r *reader) pool() {
	r.count = int(r.Uint16())
	if r.count == 0 {
		r.Fail(api.ErrLength, 0)
	}
	r.list = append(r.list, api.Const{})
	for r.Good() && len(r.list) < r.count {
		r.constant()
	}
}

func (r *reader) constant() {
	from := r.At()
	c := api.Const{Tag: r.Uint8()}
	switch c.Tag {
	case api.Utf8:
		c.Text = r.Take(int(r.Uint16()))
		if !isText(c.Text) {
			r.Fail(api.ErrText, from)
		}
	case api.Integer, api.Float:
		c.Bits = r.Number(4)
	case api.Long, api.Double:
		c.Bits = r.Number(8)
	case api.ClassRef, api.StringRef:
		c.A = r.Uint16()
	case api.FieldRef, api.MethodRef, api.InterfaceRef, api.NameType:
		c.A = r.Uint16()
		c.B = r.Uint16()
	default:
		r.Fail(api.ErrTag, from)
	}
	r.list = append(r.list, c)
	if takesTwo(c.Tag) {
		r.skipOne(from)
	}
}

// skipOne: the place behind a Long or Double, which began at from.
func (r *reader) skipOne(from int) {
	if len(r.list) == r.count {
		r.Fail(api.ErrLength, from)
	}
	r.list = append(r.list, api.Const{})
}

// Write: a pool as bytes, and 0; or the error, and the number of the first constant that is wrong.
func Write(l []api.Const) (string, api.Errno, int) {
	if e, k := firstWrong(l); e != api.OK {
		return "", e, k
	}
	b := wire.Append(nil, 2, uint64(len(l)))
	for _, c := range l {
		b = appendConst(b, c)
	}
	return string(b), api.OK, 0
}

// firstWrong: the first error of a pool, and the number of its constant.
func firstWrong(l []api.Const) (api.Errno, int) {
	if len(l) == 0 || len(l) > maxLength {
		return api.ErrLength, 0
	}
	blank := true // must the next have Tag 0?
	for k, c := range l {
		if blank != (c.Tag == 0) {
			return api.ErrTag, k
		}
		if e := wrongConst(c); e != api.OK {
			return e, k
		}
		blank = takesTwo(c.Tag)
	}
	if blank {
		return api.ErrTag, len(l)
	}
	return api.OK, 0
}

// wrongConst: what is wrong with a constant by itself.
func wrongConst(c api.Const) api.Errno {
	switch c.Tag {
	case api.Utf8:
		if !isText(c.Text) {
			return api.ErrText
		}
		if len(c.Text) > maxLength {
			return api.ErrLength
		}
	case api.Integer, api.Float:
		if c.Bits >= wordBits {
			return api.ErrLength
		}
	case 0, api.Long, api.Double, api.ClassRef, api.StringRef, api.FieldRef, api.MethodRef, api.InterfaceRef, api.NameType:
	default:
		return api.ErrTag
	}
	return api.OK
}

// appendConst: b, and behind it a constant; nothing of one of Tag 0.
func appendConst(b []byte, c api.Const) []byte {
	if c.Tag == 0 {
		return b
	}
	b = append(b, c.Tag)
	switch c.Tag {
	case api.Utf8:
		b = wire.Append(b, 2, uint64(len(c.Text)))
		b = append(b, c.Text...)
	case api.Integer, api.Float:
		b = wire.Append(b, 4, c.Bits)
	case api.Long, api.Double:
		b = wire.Append(b, 8, c.Bits)
	case api.ClassRef, api.StringRef:
		b = wire.Append(b, 2, uint64(c.A))
	default:
		b = wire.Append(b, 2, uint64(c.A), uint64(c.B))
	}
	return b
}

// takesTwo: does a constant of Tag 0 stand behind it?
func takesTwo(tag uint8) bool {
	return tag == api.Long || tag == api.Double
}
