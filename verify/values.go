package verify

import (
	"jvmcore/api"
	"jvmcore/code"
)

// constant: 0 to 20.
func (m *method) constant(i api.Ins) {
	switch op := i.Op; {
	case op == 0:
	case op == opNull:
		m.give(nullType)
	case op <= 8, op == 16, op == 17:
		m.give(intType)
	case op <= 10:
		m.give(longType)
	case op <= 13:
		m.give(floatType)
	case op <= 15:
		m.give(doubleType)
	default:
		m.give(m.constantType(i.A))
	}
}

// constantType: of the constant of an index.
func (c *class) constantType(index int) api.VType {
	switch c.At(index).Tag {
	case api.Integer:
		return intType
	case api.Float:
		return floatType
	case api.Long:
		return longType
	case api.Double:
		return doubleType
	}
	return objectOf(stringName)
}

// loadLocal: 21 to 45.
func (m *method) loadLocal(i api.Ins) {
	k, of, _ := code.Local(i)
	t := m.local(k)
	if of == code.OfReference {
		need(isReference(t))
	} else {
		need(t == number(of))
	}
	m.give(t)
}

// storeLocal: 54 to 78.
func (m *method) storeLocal(i api.Ins) {
	k, of, _ := code.Local(i)
	if of == code.OfReference {
		m.store(k, m.takeReference())
		return
	}
	m.take(number(of))
	m.store(k, number(of))
}

// elementSigns: in the order of the instructions that load elements, and of those that store them: the signs with which descriptors of what is in their arrays begin.
var elementSigns = [...]string{"I", "J", "F", "D", references, "BZ", "C", "S"}

const (
	references = "L["
	allSigns   = "IJFDBZCS" + references
)

// ofObjects: the place of references in that order.
const ofObjects = 4

// elementType: of what is stored, in that order.
func elementType(k int) api.VType {
	switch {
	case k < ofObjects:
		return number(k)
	case k == ofObjects:
		return objectOf(objectName)
	}
	return intType
}

// loadElement: 46 to 53, in that order.
func (m *method) loadElement(k int) {
	m.take(intType)
	array := m.takeArray(elementSigns[k])
	switch {
	case k != ofObjects:
		m.give(elementType(k))
	case array == nullType:
		m.give(nullType)
	default:
		m.give(typeOf(array.Name[1:]))
	}
}

// storeElement: 79 to 86, in that order.
func (m *method) storeElement(k int) {
	m.take(intType, elementType(k))
	m.takeArray(elementSigns[k])
}

// shift: 87 to 95, by slots.
func (m *method) shift(op uint8) {
	switch {
	case op <= 88:
		m.takeSlots(int(op) - 86)
	case op <= 91:
		m.double(1, int(op)-89)
	case op < opSwap:
		m.double(2, int(op)-92)
	default:
		top := m.takeSlots(1)
		m.give(append(top, m.takeSlots(1)...)...)
	}
}

// double: so many slots come once more, under others.
func (m *method) double(n, under int) {
	top := m.takeSlots(n)
	l := append(top, m.takeSlots(under)...)
	m.give(append(l, top...)...)
}

// reckon: 96 to 131.
func (m *method) reckon(op uint8) {
	switch k := int(op); {
	case k <= 115:
		m.pair(number((k - 96) % 4))
	case k <= 119:
		x := number(k - 116)
		m.take(x)
		m.give(x)
	case k <= 125:
		x := number((k - 120) % 2)
		m.take(x, intType)
		m.give(x)
	default:
		m.pair(number((k - 126) % 2))
	}
}

// pair: of two one is made.
func (m *method) pair(x api.VType) {
	m.take(x, x)
	m.give(x)
}

// convert: 133 to 152: numbers to others, and comparisons.
func (m *method) convert(op uint8) {
	switch k := int(op); {
	case k <= 144:
		from, to := (k-133)/3, (k-133)%3
		if to >= from { // a number is not converted to its own kind
			to++
		}
		m.take(number(from))
		m.give(number(to))
	case k <= 147:
		m.take(intType)
		m.give(intType)
	default:
		x := number((k - 145) / 2) // 148 alone is of its kind
		m.take(x, x)
		m.give(intType)
	}
}
