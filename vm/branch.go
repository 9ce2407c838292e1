package vm

import (
	"slices"

	"jvmcore/api"
	"jvmcore/heap"
)

// branch: 153 to 171, 198 to 200.
func (s step) branch(i api.Ins) stop {
	target := 0
	switch op := i.Op; {
	case op <= 158:
		if !holds(op-153, toInt(s.take(1).bits), 0) {
			return goesOn
		}
	case op <= 164:
		b, a := s.take(1), s.take(1)
		if !holds(op-159, toInt(a.bits), toInt(b.bits)) {
			return goesOn
		}
	case op <= 166:
		b, a := s.take(1), s.take(1)
		if (a.ref == b.ref) != (op == 165) {
			return goesOn
		}
	case op == opTable, op == opKeys:
		target = chosen(i, toInt(s.take(1).bits))
	case op == opIfNull, op == opIfThing:
		if (s.take(1).ref == heap.None) != (op == opIfNull) {
			return goesOn
		}
	}
	s.at = i.Targets[target]
	return stays
}

// holds: the comparisons, in the order of the instructions: equal, not, below, not below, above, not above.
func holds(which uint8, a, b int) bool {
	switch which {
	case 0:
		return a == b
	case 1:
		return a != b
	case 2:
		return a < b
	case 3:
		return a >= b
	case 4:
		return a > b
	}
	return a <= b
}

// chosen: the number of a switch's target, by the key.
func chosen(i api.Ins, key int) int {
	if i.Op == opTable {
		if k := key - i.Low; within(k, 0, len(i.Targets)-2) {
			return k + 1
		}
		return 0
	}
	if k, found := slices.BinarySearch(i.Keys, key); found {
		return k + 1
	}
	return 0
}

// backSlots: of what 172 to 177 give back.
var backSlots = [...]int{1, 2, 1, 2, 1, 0}

// giveBack: 172 to 177: the frame is over.
func (s step) giveBack(op uint8) stop {
	slots := backSlots[op-opGiveInt]
	var x value
	if slots > 0 {
		x = s.take(slots)
		x.bits = narrow(s.method.gives, x.bits)
	}
	s.leave()
	switch {
	case s.starts != nil:
		s.starts.state, s.starts.by = initialised, nil // the instruction that needed the class comes again
	case len(s.frames) == 0:
		s.finish(ended, "")
	default:
		f := s.last()
		if slots > 0 {
			f.give(slots, x)
		}
		f.at++
	}
	return stays
}
