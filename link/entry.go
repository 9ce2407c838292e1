package link

import (
	"jvmcore/api"
	"jvmcore/consts"
)

// entry: a class of a world.
type entry struct {
	file            api.Class // whole, since a world is also where code is taken from
	name            string
	above           []string // Super, then the interfaces in order; nothing of java/lang/Object
	fields, methods members
	first           bool // it was there at first
	state           int
	wrong           api.Errno // what was found when it was looked at
}

// The states of a class. What is found of it once is told ever after.
const (
	unknown = iota
	looking
	looked
)

// newEntry: of a class in which all indexes are right.
func newEntry(file api.Class) *entry {
	pool := consts.Pool(file.Pool)
	c := &entry{file: file}
	c.name, _ = pool.Class(int(file.This))
	if super, has := pool.Class(int(file.Super)); has {
		c.above = append(c.above, super)
	}
	for _, index := range file.Interfaces {
		face, _ := pool.Class(int(index))
		c.above = append(c.above, face)
	}
	member := func(flags, name, of uint16) api.Member {
		m := api.Member{Class: c.name, Flags: flags}
		m.Name, _ = pool.Text(int(name))
		m.Type, _ = pool.Text(int(of))
		return m
	}
	for _, f := range file.Fields {
		c.fields.add(member(f.Flags, f.Name, f.Type))
	}
	for _, m := range file.Methods {
		c.methods.add(member(m.Flags, m.Name, m.Type))
	}
	return c
}

// is: has the class one of these flags?
func (c *entry) is(flags uint16) bool {
	return c.file.Flags&flags != 0
}

// found: this, for ever.
func (c *entry) found(e api.Errno) {
	c.state, c.wrong = looked, e
}

// signature: what a member is looked for by.
type signature struct {
	name, of string
}

// members: the fields of a class, or its methods, in the order of its file.
type members struct {
	list   []api.Member
	places map[signature]int // in the list, which may be long
}

func (l *members) add(m api.Member) {
	if l.places == nil {
		l.places = map[signature]int{}
	}
	l.places[signature{m.Name, m.Type}] = len(l.list)
	l.list = append(l.list, m)
}

// find: the one of a signature; false if there is none.
func (l *members) find(s signature) (api.Member, bool) {
	place, found := l.places[s]
	if !found {
		return api.Member{}, false
	}
	return l.list[place], true
}
