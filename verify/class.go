package verify

import (
	"jvmcore/api"
	"jvmcore/consts"
	"jvmcore/desc"
	"jvmcore/link"
)

// class: the one that is looked at.
type class struct {
	consts.Pool
	world       *link.World
	this, super string
	fields      map[signature]struct{} // its own
	members     map[int]member         // those that were told, by their indexes: a long descriptor is read once
	arrays      map[int]api.VType      // those of the classes that were told, by their indexes: a long name is written once
}

// signature: name and descriptor of a member.
type signature struct {
	name, of string
}

// member: what an instruction names: whose it is, its signature, what it takes and what it gives: of a field its type, of a method one, or none.
type member struct {
	signature
	class        api.VType
	takes, gives []api.VType
}

func newClass(w *link.World, file api.Class) *class {
	c := &class{
		Pool:    file.Pool,
		world:   w,
		fields:  map[signature]struct{}{},
		members: map[int]member{},
		arrays:  map[int]api.VType{},
	}
	c.this = c.classAt(int(file.This))
	c.super = c.classAt(int(file.Super))
	for _, f := range file.Fields {
		c.fields[c.signatureOf(f.Name, f.Type)] = struct{}{}
	}
	return c
}

// classAt: the name of the class of an index.
func (c *class) classAt(index int) string {
	name, _ := c.Class(index)
	return name
}

func (c *class) signatureOf(name, of uint16) signature {
	var s signature
	s.name, _ = c.Text(int(name))
	s.of, _ = c.Text(int(of))
	return s
}

// memberAt: that of an index.
func (c *class) memberAt(index int) member {
	if m, had := c.members[index]; had {
		return m
	}
	told := c.At(index)
	pair := c.At(int(told.B))
	m := newMember(c.signatureOf(pair.A, pair.B))
	m.class = objectOf(c.classAt(int(told.A)))
	c.members[index] = m
	return m
}

// newMember: of a signature, of no class yet.
func newMember(s signature) member {
	m := member{signature: s}
	takes, gives, isMethod := desc.Method(s.of)
	switch {
	case !isMethod:
		m.gives = typesOf(s.of)
	case gives == "V":
		m.takes = typesOf(takes...)
	default:
		m.takes, m.gives = typesOf(takes...), typesOf(gives)
	}
	return m
}

// arrayOf: what is made of the class of an index, which may be an array itself.
func (c *class) arrayOf(index int) api.VType {
	if t, had := c.arrays[index]; had {
		return t
	}
	name := c.classAt(index)
	if !isArray(name) {
		name = "L" + name + ";"
	}
	t := objectOf("[" + name)
	c.arrays[index] = t
	return t
}
