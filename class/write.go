package class

import (
	"slices"

	"jvmcore/api"
	"jvmcore/pool"
	"jvmcore/wire"
)

// What an attribute has ahead of what is in it, and a handler, in bytes.
const (
	headLength    = 2 + 4
	handlerLength = 4 * 2
)

// writer: writes a class file. Its first error stays.
type writer struct {
	bytes []byte
	names map[string]int // of each text its first index
	errno api.Errno
}

// Write: a class as a class file; or the error that comes first.
func Write(c api.Class) (string, api.Errno) {
	if !knownVersion(c.Minor, c.Major) {
		return "", api.ErrVersion
	}
	constants, e, _ := pool.Write(c.Pool)
	if e != api.OK {
		return "", e
	}
	w := writer{names: firstTexts(c.Pool)}
	w.numbers(4, magic)
	w.numbers(2, int(c.Minor), int(c.Major))
	w.text(constants)
	w.class(c)
	if w.errno != api.OK {
		return "", w.errno
	}
	return string(w.bytes), api.OK
}

// firstTexts: the first index of each text of a pool.
func firstTexts(p []api.Const) map[string]int {
	first := map[string]int{}
	for index, c := range p {
		if c.Tag != api.Utf8 {
			continue
		}
		if _, had := first[c.Text]; !had {
			first[c.Text] = index
		}
	}
	return first
}

// class: what stands behind the pool.
func (w *writer) class(c api.Class) {
	w.numbers(2, int(c.Flags), int(c.This), int(c.Super), len(c.Interfaces))
	for _, index := range c.Interfaces {
		w.numbers(2, int(index))
	}
	w.numbers(2, len(c.Fields))
	for _, f := range c.Fields {
		w.field(f)
	}
	w.numbers(2, len(c.Methods))
	for _, m := range c.Methods {
		w.method(m)
	}
	w.numbers(2, 0)
}

func (w *writer) field(f api.Field) {
	w.numbers(2, int(f.Flags), int(f.Name), int(f.Type))
	w.attributes(f.Value != 0, valueAttribute, 2, func() { w.numbers(2, int(f.Value)) })
}

func (w *writer) method(m api.Method) {
	w.numbers(2, int(m.Flags), int(m.Name), int(m.Type))
	w.attributes(m.HasCode, codeAttribute, codeLength(m.Code), func() { w.code(m.Code) })
}

func (w *writer) code(c api.Code) {
	w.numbers(2, c.MaxStack, c.MaxLocals)
	w.numbers(4, len(c.Bytes))
	w.text(c.Bytes)
	w.numbers(2, len(c.Handlers))
	for _, h := range c.Handlers {
		w.numbers(2, h.From, h.To, h.Target, int(h.Type))
	}
	w.attributes(c.Map != "", mapAttribute, len(c.Map), func() { w.text(c.Map) })
}

// codeLength: that of the attribute Code. It stands ahead of what is in it, and so its error does.
func codeLength(c api.Code) int {
	n := 2 + 2 + 4 + len(c.Bytes) + 2 + handlerLength*len(c.Handlers) + 2
	if c.Map != "" {
		n += headLength + len(c.Map)
	}
	return n
}

// attributes: none; or, if it is there, the one that counts, by what writes what is in it.
func (w *writer) attributes(there bool, name string, length int, write func()) {
	if !there {
		w.numbers(2, 0)
		return
	}
	index, found := w.names[name]
	if !found {
		w.fail(api.ErrName)
	}
	w.numbers(2, 1, index)
	w.numbers(4, length)
	write()
}

// numbers: each in n bytes.
func (w *writer) numbers(n int, l ...int) {
	for _, x := range l {
		if x>>(8*n) != 0 {
			w.fail(api.ErrLength)
		}
		w.bytes = wire.Append(w.bytes, n, uint64(x))
	}
}

// text: its bytes, without their number. (After an error it may be longer than a file can be.)
func (w *writer) text(s string) {
	if w.errno != api.OK {
		return
	}
	from := len(w.bytes)
	w.bytes = slices.Grow(w.bytes, len(s))[:from+len(s)]
	copy(w.bytes[from:], s)
}

// fail: an error; one after the first is of no matter.
func (w *writer) fail(e api.Errno) {
	if w.errno == api.OK {
		w.errno = e
	}
}
