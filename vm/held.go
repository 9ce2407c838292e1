package vm

import "jvmcore/heap"

// holder: holds all references of a machine from outside.
type holder struct {
	*VM
}

// Turn: of these references.
func (h holder) Turn(turn func(heap.Ref) heap.Ref) {
	h.noRoom = turn(h.noRoom)
	for k, r := range h.making {
		h.making[k] = turn(r)
	}
	for text, r := range h.texts {
		h.texts[text] = turn(r)
	}
	for _, c := range h.classes {
		turnValues(c.statics, turn)
	}
	for _, t := range h.threads {
		t.self = turn(t.self)
		for _, f := range t.frames {
			f.held = turn(f.held)
			turnValues(f.locals, turn)
			turnValues(f.stack, turn)
		}
	}
}

func turnValues(l []value, turn func(heap.Ref) heap.Ref) {
	for k, x := range l {
		if x.ref != heap.None {
			l[k].ref = turn(x.ref)
		}
	}
}
