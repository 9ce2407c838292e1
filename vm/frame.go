package vm

import "jvmcore/heap"

// value: bits of a number, or a reference.
type value struct {
	bits uint64
	ref  heap.Ref
}

// frame: a method that runs.
type frame struct {
	method *method
	at     int      // the number of the instruction
	locals []value  // those behind these hold nothing yet; so does the second of a long or double
	stack  []value  // a long or double has one more above it that holds nothing
	lock   *lock    // of a Synchronized method
	held   heap.Ref // the thing that the lock goes with, if it is not that of a class
	needs  *class   // that must be initialised ahead of the first instruction
	starts *class   // that is initialised by this frame
}

// newFrame: with these as its first locals.
func newFrame(m *method, takes ...value) *frame {
	m.instructions()
	f := &frame{method: m, locals: make([]value, len(takes))}
	copy(f.locals, takes)
	return f
}

func (f *frame) push(l ...value) { f.stack = append(f.stack, l...) }

// give: a value of so many slots comes on the stack.
func (f *frame) give(slots int, x value) {
	f.push(x)
	if slots == 2 {
		f.push(value{})
	}
}

func (f *frame) giveBits(slots int, bits uint64) { f.give(slots, value{bits: bits}) }

// top: the value k slots below the top, of so many slots itself.
func (f *frame) top(k, slots int) value { return f.stack[len(f.stack)-k-slots] }

// drop: so many slots are not held any more.
func (f *frame) drop(slots int) { f.stack = f.stack[:len(f.stack)-slots] }

// take: the value of so many slots at the top.
func (f *frame) take(slots int) value {
	x := f.top(0, slots)
	f.drop(slots)
	return x
}

// double: n slots at the top come once more, under others.
func (f *frame) double(n, under int) {
	end := len(f.stack)
	from := end - n - under
	f.push(f.stack[end-n:]...)
	copy(f.stack[from+n:], f.stack[from:end])
	copy(f.stack[from:], f.stack[end:])
}

// shift: 87 to 95.
func (f *frame) shift(op uint8) stop {
	switch {
	case op <= 88:
		f.drop(int(op) - 86)
	case op <= 91:
		f.double(1, int(op)-89)
	case op <= 94:
		f.double(2, int(op)-92)
	default:
		last := len(f.stack) - 1
		f.stack[last-1], f.stack[last] = f.stack[last], f.stack[last-1]
	}
	return goesOn
}

// local, setLocal: there are fewer than MaxLocals till they are needed, as that may be very many.
func (f *frame) local(k int) value {
	if k < len(f.locals) {
		return f.locals[k]
	}
	return value{}
}

func (f *frame) setLocal(k int, x value) {
	if lacks := k + 1 - len(f.locals); lacks > 0 {
		f.locals = append(f.locals, make([]value, lacks)...)
	}
	f.locals[k] = x
}

// store: what is in the second slot of a long or double goes.
func (f *frame) store(k, slots int, x value) {
	f.setLocal(k, x)
	if slots == 2 {
		f.setLocal(k+1, value{})
	}
}
