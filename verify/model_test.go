package verify

import (
	"slices"
	"strings"

	"jvmcore/api"
	"jvmcore/code"
	"jvmcore/link"
	"jvmcore/maps"
)

// model: the chapter told once more, plainly and by other means, to hold the program against. It believes Load, Decode and Read of the chapters ahead.
type model struct {
	w      *link.World
	file   api.Class
	supers map[string]string // of all classes that are right
	faces  map[string]bool   // those that are interfaces
	table  map[int]row       // instructions that take and give the same always
}

// newModel: of classes that are told, with some of those that are there at first.
func newModel(w *link.World, l ...*built) *model {
	m := &model{w: w, supers: map[string]string{}, faces: map[string]bool{cloneableName: true, serializableName: true}, table: map[int]row{}}
	for _, s := range strings.Fields("String:Object Thread:Object Throwable:Object Error:Throwable Exception:Throwable Cloneable:Object") {
		low, up, _ := strings.Cut(s, ":")
		m.supers["java/lang/"+low] = "java/lang/" + up
	}
	m.supers[serializableName] = objectName
	for _, b := range l {
		m.supers[b.name] = b.super
		m.faces[b.name] = b.Flags&api.Interface != 0
	}
	for _, r := range plainRows() {
		if op := int(r.code(nil)[0]); op < 46 || op > 86 && op != 190 {
			m.table[op] = r
		}
	}
	return m
}

// mstate: each local, each value on the stack.
type mstate struct {
	locals, stack []api.VType
	half          bool
}

func (s mstate) copied() mstate {
	return mstate{slices.Clone(s.locals), slices.Clone(s.stack), s.half}
}

func (m *model) below(a, b string) api.Errno {
	array := func(s string) bool { return s[0] == '[' }
	if a == b || b == objectName {
		return yes
	}
	if !array(b) {
		if e := m.w.Load(b); e != yes {
			return e
		}
		if m.faces[b] && (!array(a) || b == cloneableName || b == serializableName) {
			return yes
		}
	}
	if array(a) {
		switch {
		case !array(b):
			return no
		case strings.IndexByte("L[", a[1]) < 0, strings.IndexByte("L[", b[1]) < 0:
			return no // the same were found above
		}
		return m.below(named(a[1:]), named(b[1:]))
	}
	if array(b) {
		return no
	}
	if e := m.w.Load(a); e != yes {
		return e
	}
	for c := a; c != objectName; c = m.supers[c] {
		if c == b {
			return yes
		}
	}
	return no
}

// named: of the descriptor of a reference.
func named(of string) string {
	if of[0] == 'L' {
		return of[1 : len(of)-1]
	}
	return of
}

// described: the type of a descriptor.
func described(of string) api.VType {
	switch {
	case of[0] == 'L' || of[0] == '[':
		return obj(named(of))
	case of == "J":
		return longT
	case of == "F":
		return floatT
	case of == "D":
		return doubleT
	}
	return intT
}

func (m *model) fit(one, other api.VType) api.Errno {
	if one == other || other.Tag == 0 || other.Tag == 7 && one.Tag == 5 {
		return yes
	}
	if other.Tag != 7 || one.Tag != 7 {
		return no
	}
	return m.below(one.Name, other.Name)
}

// mcode: a method's code, and what is around it.
type mcode struct {
	*model
	api.Method
	this, super, name string
	takes             []api.VType
	gives             string
	list              []api.Ins
	frames            map[int]mstate
}

// verify: the error and its place.
func (m *model) verify(file api.Class, k int) (api.Errno, int) {
	m.file = file
	c := &mcode{model: m, Method: file.Methods[k], frames: map[int]mstate{}}
	c.this, c.super = c.className(int(file.This)), c.className(int(file.Super))
	c.name = file.Pool[c.Name].Text
	takes, gives := mcut(file.Pool[c.Type].Text)
	for _, of := range takes {
		c.takes = append(c.takes, described(of))
	}
	c.gives = gives
	return c.run()
}

// mcut: what the descriptor of a method takes and gives.
func mcut(of string) ([]string, string) {
	var l []string
	for of = of[1:]; of[0] != ')'; {
		n := 0
		for of[n] == '[' {
			n++
		}
		if of[n] == 'L' {
			n += strings.IndexByte(of[n:], ';')
		}
		l, of = append(l, of[:n+1]), of[n+1:]
	}
	return l, of[1:]
}

func (m *model) className(k int) string { return m.file.Pool[m.file.Pool[k].A].Text }

func (c *mcode) begin() (mstate, api.Errno) {
	var first []api.VType
	var s mstate
	if c.Flags&api.Static == 0 {
		first = types(obj(c.this))
		if c.name == "<init>" {
			first, s.half = types(thisT), true
		}
	}
	first = append(first, c.takes...)
	s.locals = slotTypes(c.Code.MaxLocals, first...)
	if len(s.locals) > c.Code.MaxLocals {
		return s, no
	}
	if c.Code.Map != "" {
		l, e, _ := maps.Read(c.Code.Map, c.file.Pool, first)
		if e != yes || !c.keep(l) {
			return s, api.ErrMap
		}
	}
	for _, h := range c.Code.Handlers {
		if h.Type != 0 {
			if e := c.below(c.className(int(h.Type)), throwableName); e != yes {
				return s, e
			}
		}
	}
	return s, yes
}

// keep: frames; false if one may not be.
func (c *mcode) keep(l []api.Frame) bool {
	op := map[int]int{}
	for _, i := range c.list {
		op[i.At] = 1 + int(i.Op)
	}
	for _, f := range l {
		each := slotTypes(c.Code.MaxLocals, f.Locals...)
		if len(each) > c.Code.MaxLocals || op[f.At] == 0 || width(f.Stack) > c.Code.MaxStack {
			return false
		}
		for _, t := range append(slices.Clone(each), f.Stack...) {
			if t.Tag == 8 && op[t.At] != 188 {
				return false
			}
		}
		c.frames[f.At] = mstate{each, f.Stack, slices.Contains(each, thisT)}
	}
	return true
}

func (c *mcode) goOn(at int, s mstate) api.Errno {
	f, has := c.frames[at]
	if !has || s.half && !f.half {
		return no
	}
	for k := range s.locals {
		if e := c.fit(s.locals[k], f.locals[k]); e != yes {
			return e
		}
	}
	if len(s.stack) != len(f.stack) {
		return no
	}
	for k := range s.stack {
		if e := c.fit(s.stack[k], f.stack[k]); e != yes {
			return e
		}
	}
	return yes
}

func (c *mcode) run() (api.Errno, int) {
	c.list, _, _ = code.Decode(c.Code.Bytes)
	s, e := c.begin()
	if e != yes {
		return e, 0
	}
	comes, at := true, 0
	for _, i := range c.list {
		at = i.At
		f, has := c.frames[at]
		if has && comes {
			if e := c.goOn(at, s); e != yes {
				return e, at
			}
		}
		if !has && !comes {
			return no, at
		}
		if has {
			s = f.copied()
		}
		for _, h := range c.Code.Handlers {
			if h.From <= at && at < h.To {
				if e := c.caught(h, s); e != yes {
					return e, at
				}
			}
		}
		after, e := c.step(s.copied(), i)
		if e != yes {
			return e, at
		}
		for _, target := range i.Targets {
			if e := c.goOn(target, after); e != yes {
				return e, at
			}
		}
		s, comes = after, !slices.Contains([]int{167, 170, 171, 172, 173, 174, 175, 176, 177, 191, 200}, int(i.Op))
	}
	if comes {
		return no, at
	}
	return yes, 0
}

func (c *mcode) caught(h api.Handler, s mstate) api.Errno {
	if c.Code.MaxStack == 0 {
		return no
	}
	name := throwableName
	if h.Type != 0 {
		name = c.className(int(h.Type))
	}
	s.stack = types(obj(name))
	return c.goOn(h.Target, s)
}
