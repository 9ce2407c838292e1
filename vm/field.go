package vm

import (
	"jvmcore/api"
	"jvmcore/desc"
	"jvmcore/heap"
)

// field: what an index of a pool leads to.
type field struct {
	api.Member
	owner *class
	slots int
	place int // of a static field among those of its class; else among the references of a thing, or among its words
}

// fieldAt: that of an index of the class that runs.
func (s step) fieldAt(index int) (*field, api.Errno) {
	c := s.method.class
	if f, had := c.fields[index]; had {
		return f, api.OK
	}
	class, told := c.memberAt(index)
	m, e := s.world.Field(c.name, class, told.name, told.of)
	if e != api.OK {
		return nil, e
	}
	f := &field{Member: m, owner: s.class(m.Class), slots: desc.Slots(m.Type)}
	if m.Flags&api.Static != 0 {
		f.place = f.owner.places[signature{m.Name, m.Type}]
	} else {
		f.place = s.kinds[s.numberOf(m.Class)].places[m]
	}
	c.fields[index] = f
	return f, api.OK
}

// memberAt: the class, the name and the descriptor that an index of the pool tells.
func (c *class) memberAt(index int) (string, signature) {
	told := c.At(index)
	class, _ := c.Class(int(told.A))
	pair := c.At(int(told.B))
	return class, c.signatureOf(pair.A, pair.B)
}

// field: 178 to 181.
func (s step) field(i api.Ins) stop {
	f, e := s.fieldAt(i.A)
	if e != api.OK {
		return ofLink(e)
	}
	if x := s.mayUse(i.Op, f); x != goesOn {
		return x
	}
	switch i.Op {
	case opGetStatic:
		s.give(f.slots, f.owner.statics[f.place])
	case opPutStatic:
		x := s.take(f.slots)
		x.bits = narrow(f.Type, x.bits)
		f.owner.statics[f.place] = x
	case opGetField:
		return s.getField(f)
	default:
		return s.putField(f)
	}
	return goesOn
}

// mayUse: is the field as the instruction needs it?
func (s step) mayUse(op uint8, f *field) stop {
	isStatic := f.Flags&api.Static != 0
	puts := op == opPutStatic || op == opPutField
	switch {
	case isStatic != (op <= opPutStatic):
		return classChange
	case puts && f.Flags&api.Final != 0 && f.owner != s.method.class:
		return illegalAccess
	case isStatic:
		return s.initialise(f.owner)
	}
	return goesOn
}

func (s step) getField(f *field) stop {
	thing := s.top(0, 1).ref
	if thing == heap.None {
		return nullPointer
	}
	s.drop(1)
	s.give(f.slots, s.slot(thing, f.Type, f.place))
	return goesOn
}

func (s step) putField(f *field) stop {
	thing := s.top(f.slots, 1).ref
	if thing == heap.None {
		return nullPointer
	}
	s.setSlot(thing, f.Type, f.place, s.take(f.slots))
	s.drop(1)
	return goesOn
}
