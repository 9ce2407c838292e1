package vm

import (
	"jvmcore/api"
	"jvmcore/code"
	"jvmcore/num"
)

// known: the constants of 1 to 15: of none, ints, longs, floats and doubles.
var known = [...]struct {
	bits  uint64
	slots int
}{
	opNull: {0, 1},
	2:      {1<<32 - 1, 1}, 3: {0, 1}, 4: {1, 1}, 5: {2, 1}, 6: {3, 1}, 7: {4, 1}, 8: {5, 1},
	9: {0, 2}, 10: {1, 2},
	11: {0, 1}, 12: {0x3f800000, 1}, 13: {0x40000000, 1},
	14: {0, 2}, 15: {0x3ff0000000000000, 2},
}

// constants: 0 to 20.
func (s step) constants(i api.Ins) stop {
	switch op := i.Op; {
	case op == 0:
	case op <= 15:
		s.giveBits(known[op].slots, known[op].bits)
	case op <= 17:
		s.giveBits(1, ofInt(i.A))
	default:
		return s.constantOfPool(i)
	}
	return goesOn
}

func (s step) constantOfPool(i api.Ins) stop {
	x, ok := s.constant(s.method.class, i.A)
	if !ok {
		return outOfMemory
	}
	slots := 1
	if i.Op == opWideConstant {
		slots = 2
	}
	s.give(slots, x)
	return goesOn
}

// ofInt, toInt: the bits of an int, and the int of bits.
func ofInt(x int) uint64 { return uint64(uint32(x)) }

func toInt(bits uint64) int { return int(int32(bits)) }

// localSlots: of the types of locals, in their order.
var localSlots = [...]int{code.OfInt: 1, code.OfLong: 2, code.OfFloat: 1, code.OfDouble: 2, code.OfReference: 1}

// loadLocal: 21 to 45.
func (s step) loadLocal(i api.Ins) stop {
	k, of, _ := code.Local(i)
	s.give(localSlots[of], s.local(k))
	return goesOn
}

// storeLocal: 54 to 78.
func (s step) storeLocal(i api.Ins) stop {
	k, of, _ := code.Local(i)
	s.store(k, localSlots[of], s.take(localSlots[of]))
	return goesOn
}

func (s step) increment(i api.Ins) stop {
	bits, _ := num.Two(96, s.local(i.A).bits, ofInt(i.B))
	s.setLocal(i.A, value{bits: bits})
	return goesOn
}

// reckon: 96 to 131. Those of longs and doubles have odd numbers.
func (s step) reckon(op uint8) stop {
	slots := 1 + int(op)%2
	switch {
	case 116 <= op && op <= 119:
		return s.one(op, slots, slots)
	case 120 <= op && op <= 125:
		return s.two(op, slots, 1, slots)
	}
	return s.two(op, slots, slots, slots)
}

// converted: the slots of what 133 to 147 take, and of what they give.
var converted = [...]struct{ takes, gives int }{
	{1, 2}, {1, 1}, {1, 2},
	{2, 1}, {2, 1}, {2, 2},
	{1, 1}, {1, 2}, {1, 2},
	{2, 1}, {2, 2}, {2, 1},
	{1, 1}, {1, 1}, {1, 1},
}

// convert: 133 to 152: numbers to others, and comparisons.
func (s step) convert(op uint8) stop {
	switch {
	case op <= 147:
		x := converted[op-133]
		return s.one(op, x.takes, x.gives)
	case op == 149, op == 150:
		return s.two(op, 1, 1, 1)
	}
	return s.two(op, 2, 2, 1)
}

// one: of one value, by the slots of it and of what comes instead.
func (s step) one(op uint8, takes, gives int) stop {
	bits, _ := num.One(op, s.take(takes).bits)
	s.giveBits(gives, bits)
	return goesOn
}

// two: of two values, by the slots of both and of what comes instead.
func (s step) two(op uint8, first, second, gives int) stop {
	bits, e := num.Two(op, s.top(second, first).bits, s.top(0, second).bits)
	if e != api.OK {
		return arithmetic
	}
	s.drop(first + second)
	s.giveBits(gives, bits)
	return goesOn
}

// narrow: what arrays, fields and methods of a descriptor hold and give of an int. All other bits are as they are.
func narrow(of string, bits uint64) uint64 {
	switch of {
	case "B":
		bits, _ = num.One(145, bits)
	case "S":
		bits, _ = num.One(147, bits)
	case "C":
		bits, _ = num.One(146, bits)
	case "Z":
		bits &= 1
	}
	return bits
}
