package verify

import (
	"slices"
	"strings"

	"jvmcore/api"
)

// mstep: one instruction, while it is done. The first error stays.
type mstep struct {
	*mcode
	mstate
	e api.Errno
}

func (s *mstep) must(right bool) {
	if s.e == yes && !right {
		s.e = no
	}
}

func (s *mstep) pop() api.VType {
	s.must(len(s.stack) > 0)
	if s.e != yes {
		return nullT
	}
	t := s.stack[len(s.stack)-1]
	s.stack = s.stack[:len(s.stack)-1]
	return t
}

// take: one.
func (s *mstep) take(want api.VType) {
	if t := s.pop(); s.e == yes {
		s.e = s.fit(t, want)
	}
}

func (s *mstep) takeAny() { s.must(s.pop().Tag >= 5) }

func (s *mstep) takeAll(l []api.VType) {
	for _, t := range slices.Backward(l) {
		s.take(t)
	}
}

func (s *mstep) give(l ...api.VType) {
	if s.e == yes {
		s.stack = append(s.stack, l...)
	}
}

// array: of what is told by signs.
func (s *mstep) array(signs string) api.VType {
	t := s.pop()
	s.must(t == nullT || t.Tag == 7 && t.Name[0] == '[' && strings.IndexByte(signs, t.Name[1]) >= 0)
	return t
}

func (c *mcode) step(before mstate, i api.Ins) (mstate, api.Errno) {
	s := &mstep{c, before, yes}
	op := int(i.Op)
	if r, has := c.table[op]; has {
		s.takeAll(r.takes)
		s.give(r.gives...)
	} else {
		switch {
		case op < 21:
			s.constant(i)
		case op < 46 || op > 53 && op < 79 || op == 132:
			s.locally(i)
		case op < 54 || op > 78 && op < 87 || op == 190:
			s.elements(op)
		case op < 96:
			l, right := shifted(op, s.stack)
			s.must(right)
			s.stack = l
		case op < 178 || op > 197:
			s.going(op)
		case op < 186:
			s.members(i)
		default:
			s.things(i)
		}
	}
	s.must(width(s.stack) <= c.Code.MaxStack)
	return s.mstate, s.e
}

func (s *mstep) constant(i api.Ins) {
	if i.Op < 18 {
		s.give(intT)
		return
	}
	s.give(map[uint8]api.VType{3: intT, 4: floatT, 5: longT, 6: doubleT, 8: obj("java/lang/String")}[s.file.Pool[i.A].Tag])
}

// locally: loads, stores, 132.
func (s *mstep) locally(i api.Ins) {
	op, k := int(i.Op), i.A
	of := 0
	switch {
	case op == 132:
		s.must(s.locals[k] == intT)
		return
	case op < 26:
		of = op - 21
	case op < 46:
		of, k = (op-26)/4, (op-26)%4
	case op < 59:
		of = op - 54
	default:
		of, k = (op-59)/4, (op-59)%4
	}
	if op < 46 {
		s.must(isOf(s.locals[k], of))
		s.give(s.locals[k])
		return
	}
	t := s.pop()
	s.must(isOf(t, of))
	if s.e == yes {
		s.locals = stored(s.locals, k, t)
	}
}

func (s *mstep) elements(op int) {
	signs := strings.Fields("I J F D L[ BZ C S")
	values := types(intT, longT, floatT, doubleT, anyT, intT, intT, intT)
	switch {
	case op == 190:
		s.array("IJFDL[BZCS")
		s.give(intT)
	case op > 78:
		s.take(values[op-79])
		s.take(intT)
		s.array(signs[op-79])
	default:
		s.take(intT)
		t := s.array(signs[op-46])
		switch {
		case s.e != yes:
		case op != 50:
			s.give(values[op-46])
		case t == nullT:
			s.give(t)
		default:
			s.give(described(t.Name[1:]))
		}
	}
}

// going: branches, switches, ends.
func (s *mstep) going(op int) {
	switch {
	case op == 167 || op == 200:
	case op < 159 || op == 170 || op == 171:
		s.take(intT)
	case op < 165:
		s.takeAll(types(intT, intT))
	case op < 167:
		s.takeAny()
		s.takeAny()
	case op > 197:
		s.takeAny()
	case op == 177:
		s.must(s.gives == "V" && !(s.half && s.name == "<init>"))
	default:
		s.must(s.gives != "V")
		if s.e == yes {
			t := described(s.gives)
			s.must(isOf(t, op-172))
			s.take(t)
		}
	}
}

func (s *mstep) members(i api.Ins) {
	ref := s.file.Pool[i.A]
	class, pair := s.className(int(ref.A)), s.file.Pool[ref.B]
	name, of := s.file.Pool[pair.A].Text, s.file.Pool[pair.B].Text
	switch i.Op {
	case 178:
		s.give(described(of))
		return
	case 179:
		s.take(described(of))
		return
	case 180:
		s.take(obj(class))
		s.give(described(of))
		return
	case 181:
		s.take(described(of))
		if len(s.stack) > 0 && s.stack[len(s.stack)-1] == thisT {
			s.pop()
			s.must(class == s.this && s.hasField(name, of))
			return
		}
		s.take(obj(class))
		return
	}
	takes, gives := mcut(of)
	for _, x := range slices.Backward(takes) {
		s.take(described(x))
	}
	switch {
	case i.Op == 184:
	case i.Op != 183:
		s.take(obj(class))
	case name == "<init>":
		s.make(class)
	case s.e == yes:
		s.e = s.below(s.this, class)
		s.must(class == s.this || class == objectName || s.aboveThis(class))
		s.take(obj(s.this))
	}
	if gives != "V" {
		s.give(described(gives))
	}
}

func (s *mstep) hasField(name, of string) bool {
	for _, f := range s.file.Fields {
		if s.file.Pool[f.Name].Text == name && s.file.Pool[f.Type].Text == of {
			return true
		}
	}
	return false
}

func (s *mstep) aboveThis(class string) bool {
	for c := s.this; c != objectName; c = s.supers[c] {
		if c == class {
			return true
		}
	}
	return false
}

func (s *mstep) make(class string) {
	t := s.pop()
	made := class
	switch t.Tag {
	case 6:
		s.must(class == s.this || class == s.super)
		made = s.this
		s.half = s.half && s.e != yes
	case 8:
		for _, i := range s.list {
			if i.At == t.At {
				s.must(class == s.className(i.A))
			}
		}
	default:
		s.must(false)
	}
	for _, l := range [][]api.VType{s.locals, s.stack} {
		for k := range l {
			if l[k] == t {
				l[k] = obj(made)
			}
		}
	}
}

func (s *mstep) things(i api.Ins) {
	array := func(of string) api.VType { return obj("[" + of) }
	switch i.Op {
	case 187:
		t := fresh(i.At)
		s.must(!slices.Contains(s.stack, t))
		for k := range s.locals {
			if s.locals[k] == t {
				s.locals[k] = topT
			}
		}
		s.give(t)
	case 188:
		s.take(intT)
		s.give(array(strings.Fields("Z C F D B S I J")[i.A-4]))
	case 189:
		s.take(intT)
		name := s.className(i.A)
		if name[0] != '[' {
			name = "L" + name + ";"
		}
		s.give(array(name))
	case 191:
		s.take(obj(throwableName))
	case 192, 193:
		s.take(anyT)
		s.give(map[uint8]api.VType{192: obj(s.className(i.A)), 193: intT}[i.Op])
	case 197:
		for range i.B {
			s.take(intT)
		}
		s.give(obj(s.className(i.A)))
	default:
		s.takeAny()
	}
}
