package vm

import (
	"strings"

	"jvmcore/api"
	"jvmcore/heap"
)

// elementSlots: of what is in arrays, in the order of the instructions that load and store it: int, long, float, double, reference, byte, char, short.
var elementSlots = [...]int{1, 2, 1, 2, 1, 1, 1, 1}

// loadElement: 46 to 53, in that order.
func (s step) loadElement(k int) stop {
	array, at := s.top(1, 1).ref, toInt(s.top(0, 1).bits)
	if x := s.reaches(array, at); x != goesOn {
		return x
	}
	s.drop(2)
	s.give(elementSlots[k], s.slot(array, s.kindOf(array).elements(), at))
	return goesOn
}

// storeElement: 79 to 86, in that order.
func (s step) storeElement(k int) stop {
	slots := elementSlots[k]
	array, at, x := s.top(slots+1, 1).ref, toInt(s.top(slots, 1).bits), s.top(0, slots)
	if x := s.reaches(array, at); x != goesOn {
		return x
	}
	of := s.kindOf(array).elements()
	if isReference(of) && !s.mayHold(of, x.ref) {
		return arrayStore
	}
	s.setSlot(array, of, at, x)
	s.drop(slots + 2)
	return goesOn
}

// reaches: is there such an element?
func (s step) reaches(array heap.Ref, at int) stop {
	switch {
	case array == heap.None:
		return nullPointer
	case !within(at, 0, s.length(array)-1):
		return arrayIndex
	}
	return goesOn
}

// length: of an array.
func (v *VM) length(array heap.Ref) int {
	refs, words := v.things.Size(array)
	return refs + words
}

// mayHold: may an array of what has the descriptor hold the thing?
func (v *VM) mayHold(of string, thing heap.Ref) bool {
	if thing == heap.None {
		return true
	}
	if of[0] == 'L' {
		of = strings.TrimSuffix(of[1:], ";")
	}
	return v.isOf(thing, of)
}

// isOf: is the thing of the class, which was found right?
func (v *VM) isOf(thing heap.Ref, class string) bool {
	is, _ := v.world.Under(v.kindOf(thing).name, class)
	return is
}

// thing: 187 to 197.
func (s step) thing(i api.Ins) stop {
	switch i.Op {
	case opNew:
		return s.newThing(i.A)
	case opNewArray:
		at := i.A - firstKind
		return s.newArray("["+kindSigns[at:at+1], 1)
	case opNewObjects:
		name, x := s.find(i.A)
		if x != goesOn {
			return x
		}
		return s.newArray(arrayOf(name), 1)
	case opNewDeep:
		name, x := s.find(i.A)
		if x != goesOn {
			return x
		}
		return s.newArray(name, i.B)
	case opCast, opIs:
		return s.cast(i)
	}
	return s.touch(i.Op)
}

// kindSigns: the descriptors of values, in the order in which 188 tells them.
const (
	kindSigns = "ZCFDBSIJ"
	firstKind = 4
)

// arrayOf: the name of the array of a class, which may be an array itself.
func arrayOf(name string) string {
	if strings.HasPrefix(name, "[") {
		return "[" + name
	}
	return "[L" + name + ";"
}

// find: the class of an index, from the one that runs.
func (s step) find(index int) (string, stop) {
	name, _ := s.method.class.Class(index)
	return name, ofLink(s.world.Find(s.method.class.name, name))
}

func (s step) newThing(index int) stop {
	name, x := s.find(index)
	if x != goesOn {
		return x
	}
	c := s.class(name)
	if c.is(api.Interface | api.Abstract) {
		return instantiation
	}
	if x := s.initialise(c); x != goesOn {
		return x
	}
	return s.made(s.makeThing(name))
}

// made: what was made comes on the stack, if there was room for it.
func (s step) made(r heap.Ref, ok bool) stop {
	if !ok {
		return outOfMemory
	}
	s.push(value{ref: r})
	return goesOn
}

// newArray: of numbers that are on the stack, so many of them.
func (s step) newArray(name string, dimensions int) stop {
	numbers := make([]int, dimensions)
	for k := range dimensions {
		numbers[k] = toInt(s.top(dimensions-1-k, 1).bits)
		if numbers[k] < 0 {
			return negativeSize
		}
	}
	s.drop(dimensions)
	return s.made(s.makeDeep(name, numbers))
}

// cast: 192, 193.
func (s step) cast(i api.Ins) stop {
	thing, is := s.top(0, 1).ref, false
	if thing != heap.None {
		name, x := s.find(i.A)
		if x != goesOn {
			return x
		}
		is = s.isOf(thing, name)
	}
	switch {
	case i.Op == opCast && thing != heap.None && !is:
		return classCast
	case i.Op == opCast:
		return goesOn
	}
	s.drop(1)
	s.giveBits(1, ofBool(is))
	return goesOn
}

func ofBool(is bool) uint64 {
	if is {
		return 1
	}
	return 0
}

// touch: 190, 191, 194, 195, which need a thing.
func (s step) touch(op uint8) stop {
	thing := s.top(0, 1).ref
	if thing == heap.None {
		return nullPointer
	}
	switch op {
	case opLength:
		s.drop(1)
		s.giveBits(1, ofInt(s.length(thing)))
		return goesOn
	case opThrow:
		return given
	case opEnter:
		return s.enterLock(thing)
	}
	return s.exitLock(thing)
}
