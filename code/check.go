package code

import (
	"strings"

	"jvmcore/api"
	"jvmcore/consts"
	"jvmcore/desc"
)

// The types of locals, in the order in which loads and stores of them have their numbers.
const (
	OfInt = iota
	OfLong
	OfFloat
	OfDouble
	OfReference
)

// checker: looks at operands.
type checker struct {
	consts.Pool
	locals  int
	methods map[int]method // those that were called, by their index: a long descriptor is read once
}

// method: of a pool: its name, the slots of what it takes, and whether it has a descriptor at all.
type method struct {
	name  string
	slots int
	right bool
}

// Check: OK and 0; or ErrOperand, and the place of the first instruction whose operand may not be, by the pool p and the number of locals.
func Check(l []api.Ins, p []api.Const, locals int) (api.Errno, int) {
	c := checker{Pool: p, locals: locals, methods: map[int]method{}}
	for _, i := range l {
		if !c.localHolds(i) || !c.indexHolds(i) {
			return api.ErrOperand, i.At
		}
	}
	return api.OK, 0
}

// localHolds: is its local there, if it has one?
func (c *checker) localHolds(i api.Ins) bool {
	number, of, has := Local(i)
	if !has {
		return true
	}
	if number < 0 || number >= c.locals {
		return false
	}
	return of != OfLong && of != OfDouble || number < c.locals-1
}

// Local: the local of an instruction and its type, by the number of that in their order; false if it has none.
func Local(i api.Ins) (int, int, bool) {
	switch op := i.Op; {
	case within(op, 21, 25):
		return i.A, int(op - 21), true
	case within(op, 26, 45):
		return int(op-26) % 4, int(op-26) / 4, true
	case within(op, 54, 58):
		return i.A, int(op - 54), true
	case within(op, 59, 78):
		return int(op-59) % 4, int(op-59) / 4, true
	case op == 132:
		return i.A, OfInt, true
	}
	return 0, 0, false
}

// indexHolds: does its index lead where it must, if it has one?
func (c *checker) indexHolds(i api.Ins) bool {
	switch op := i.Op; {
	case op == 18, op == 19:
		return c.Has(i.A, api.Integer, api.Float, api.StringRef)
	case op == 20:
		return c.Has(i.A, api.Long, api.Double)
	case within(op, 178, 181):
		return c.Has(i.A, api.FieldRef)
	case within(op, 182, 184):
		return c.Has(i.A, api.MethodRef) && c.called(i)
	case op == 185:
		return c.Has(i.A, api.InterfaceRef) && c.called(i) && i.B == 1+c.method(i.A).slots
	case op == 187:
		return c.Has(i.A, api.ClassRef) && c.dimensions(i.A) == 0
	case op == 189:
		return c.Has(i.A, api.ClassRef) && c.dimensions(i.A) < 255
	case op == 192, op == 193:
		return c.Has(i.A, api.ClassRef)
	case op == 197:
		return c.Has(i.A, api.ClassRef) && c.dimensions(i.A) >= i.B
	}
	return true
}

// called: may the instruction call the method that its A leads to?
func (c *checker) called(i api.Ins) bool {
	m := c.method(i.A)
	return m.right && m.name != "<clinit>" && (m.name != "<init>" || i.Op == 183)
}

// method: that of the MethodRef or InterfaceRef of an index.
func (c *checker) method(index int) method {
	if m, found := c.methods[index]; found {
		return m
	}
	m := c.findMethod(index)
	c.methods[index] = m
	return m
}

func (c *checker) findMethod(index int) method {
	pair := int(c.At(index).B)
	if !c.Has(pair, api.NameType) {
		return method{}
	}
	name, _ := c.Text(int(c.At(pair).A))
	descriptor, _ := c.Text(int(c.At(pair).B))
	takes, _, right := desc.Method(descriptor)
	m := method{name: name, right: right}
	for _, t := range takes {
		m.slots += desc.Slots(t)
	}
	return m
}

// dimensions: of the ClassRef of an index.
func (c *checker) dimensions(index int) int {
	name, _ := c.Class(index)
	return len(name) - len(strings.TrimLeft(name, "["))
}
