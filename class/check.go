package class

import (
	"math/bits"
	"strings"

	"jvmcore/api"
	"jvmcore/consts"
	"jvmcore/desc"
)

// The parts of a class, in the order in which they are looked at.
const (
	constantPart = iota
	classPart
	fieldPart
	methodPart
)

const (
	object     = "java/lang/Object"
	initName   = "<init>"
	clinitName = "<clinit>"
)

// access: of these flags a member has one at most.
const access = api.Public | api.Private | api.Protected

// checker: looks at a class.
type checker struct {
	consts.Pool
	flags uint16 // of the class
}

// Check: OK and zeroes; or what is wrong first: the error, the part, the number of the constant, field or method, and, of a method's code, the place.
func Check(c api.Class) (api.Errno, int, int, int) {
	k := checker{c.Pool, c.Flags}
	for n, x := range c.Pool {
		if e := k.constant(x); e != api.OK {
			return e, constantPart, n, 0
		}
	}
	if e := k.class(c); e != api.OK {
		return e, classPart, 0, 0
	}
	told := names{}
	for n, f := range c.Fields {
		if e := k.field(f, told); e != api.OK {
			return e, fieldPart, n, 0
		}
	}
	told = names{}
	for n, m := range c.Methods {
		if e, place := k.method(m, told); e != api.OK {
			return e, methodPart, n, place
		}
	}
	return api.OK, 0, 0, 0
}

// is: has the class one of these flags?
func (c *checker) is(flags uint16) bool {
	return c.flags&flags != 0
}

func (c *checker) constant(x api.Const) api.Errno {
	switch x.Tag {
	case api.ClassRef:
		name, found := c.Text(int(x.A))
		switch {
		case !found:
			return api.ErrIndex
		case !desc.Class(name):
			return api.ErrName
		}
	case api.StringRef:
		if !c.Has(int(x.A), api.Utf8) {
			return api.ErrIndex
		}
	case api.NameType:
		return c.nameType(x)
	case api.FieldRef, api.MethodRef, api.InterfaceRef:
		return c.reference(x)
	}
	return api.OK
}

// nameType: one of anything. (A method's name is a field's too.)
func (c *checker) nameType(x api.Const) api.Errno {
	s, found := c.signature(x.A, x.B)
	if !found {
		return api.ErrIndex
	}
	if desc.Member(s[nameOf], false) == 0 {
		return api.ErrName
	}
	if _, _, ofMethod := desc.Method(s[typeOf]); !ofMethod && !desc.Field(s[typeOf]) {
		return api.ErrType
	}
	return api.OK
}

// reference: a FieldRef, MethodRef or InterfaceRef.
func (c *checker) reference(x api.Const) api.Errno {
	pair := c.At(int(x.B))
	s, found := c.signature(pair.A, pair.B)
	switch {
	case !c.Has(int(x.A), api.ClassRef), pair.Tag != api.NameType, !found:
		return api.ErrIndex
	case x.Tag == api.FieldRef:
		return s.wrongField()
	case s[nameOf] == clinitName, x.Tag == api.InterfaceRef && s[nameOf] == initName:
		return api.ErrName
	}
	return s.wrongMethod()
}

// class: the class itself.
func (c *checker) class(x api.Class) api.Errno {
	if c.wrongClassFlags() {
		return api.ErrFlags
	}
	if _, e := c.plainClass(x.This); e != api.OK {
		return e
	}
	super, e := c.plainClass(x.Super)
	if e != api.OK {
		return e
	}
	if c.is(api.Interface) && super != object {
		return api.ErrName
	}
	return c.interfaces(x.Interfaces)
}

func (c *checker) wrongClassFlags() bool {
	if c.is(api.Interface) {
		return !c.is(api.Abstract) || c.is(api.Final|api.SuperFlag)
	}
	return c.is(api.Abstract) && c.is(api.Final)
}

// plainClass: the name of the class of an index, which may be no array.
func (c *checker) plainClass(index uint16) (string, api.Errno) {
	name, found := c.Class(int(index))
	switch {
	case !found:
		return "", api.ErrIndex
	case strings.HasPrefix(name, "["):
		return "", api.ErrName
	}
	return name, api.OK
}

func (c *checker) interfaces(l []uint16) api.Errno {
	told := names{}
	for _, index := range l {
		name, e := c.plainClass(index)
		if e != api.OK {
			return e
		}
		if !told.add(signature{nameOf: name}) {
			return api.ErrTwice
		}
	}
	return api.OK
}

// field: one of the class, by the names of those ahead of it.
func (c *checker) field(f api.Field, told names) api.Errno {
	s, found := c.signature(f.Name, f.Type)
	if !found {
		return api.ErrIndex
	}
	if e := s.wrongField(); e != api.OK {
		return e
	}
	switch {
	case c.wrongFieldFlags(f.Flags):
		return api.ErrFlags
	case !told.add(s):
		return api.ErrTwice
	case f.Value != 0 && !c.Has(int(f.Value), s.valueTags()...):
		return api.ErrIndex
	}
	return api.OK
}

func (c *checker) wrongFieldFlags(flags uint16) bool {
	const both = api.Final | api.Volatile
	if moreThanOne(flags&access) || flags&both == both {
		return true
	}
	return c.is(api.Interface) && flags&0x00df != api.Public|api.Static|api.Final
}

// moreThanOne: are there two flags at the least?
func moreThanOne(flags uint16) bool {
	return bits.OnesCount16(flags) > 1
}
