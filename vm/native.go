package vm

import (
	"slices"
	"strconv"

	"jvmcore/heap"
	"jvmcore/pool"
)

// native: the methods that the machine itself has. Code goes on behind the call at once.
func (s step) native(m *method) stop {
	switch m.Class {
	case outName:
		x := s.take(m.slots)
		s.out = append(s.out, s.line(m.Type, x))
		return goesOn
	case stringName:
		return s.ofText(m.Name)
	case threadName:
		return s.ofThread(m.Name)
	case objectName:
		return s.ofObject(m.Name)
	}
	return unsatisfiedLink
}

// line: what jvm/Out.print of a descriptor prints.
func (v *VM) line(of string, x value) string {
	switch of {
	case "(I)V":
		return strconv.Itoa(toInt(x.bits))
	case "(J)V":
		return strconv.FormatInt(int64(x.bits), 10)
	case "(F)V":
		return "f" + strconv.FormatUint(x.bits, 16)
	case "(D)V":
		return "d" + strconv.FormatUint(x.bits, 16)
	case "(C)V":
		return "c" + strconv.FormatUint(narrow("C", x.bits), 16)
	}
	return v.quoted(x.ref)
}

func (v *VM) quoted(text heap.Ref) string {
	if text == heap.None {
		return "null"
	}
	return "'" + pool.Text(v.units(text))
}

// ofText: the methods of java/lang/String.
func (s step) ofText(name string) stop {
	switch name {
	case "length":
		_, n := s.things.Size(s.take(1).ref)
		s.giveBits(1, ofInt(n))
	case "charAt":
		return s.charAt()
	case "concat":
		return s.concat()
	case "equals":
		other, text := s.take(1).ref, s.take(1).ref
		s.giveBits(1, ofBool(s.isText(other) && slices.Equal(s.units(text), s.units(other))))
	case "intern":
		text := s.take(1).ref
		s.push(value{ref: s.intern(text)})
	}
	return goesOn
}

func (s step) charAt() stop {
	at := toInt(s.top(0, 1).bits)
	unit, has := s.things.Word(s.top(1, 1).ref, at)
	if !has {
		return textIndex
	}
	s.drop(2)
	s.giveBits(1, unit)
	return goesOn
}

// concat: both texts are on the stack till the third is made, which may move them.
func (s step) concat() stop {
	if s.top(0, 1).ref == heap.None {
		return nullPointer
	}
	units := append(s.units(s.top(1, 1).ref), s.units(s.top(0, 1).ref)...)
	r, ok := s.makeText(units)
	if !ok {
		return outOfMemory
	}
	s.drop(2)
	s.push(value{ref: r})
	return goesOn
}

func (v *VM) isText(thing heap.Ref) bool { return v.kindOf(thing).name == stringName }

// intern: the text of the pool of these units, which is this one if there was none.
func (v *VM) intern(text heap.Ref) heap.Ref {
	key := pool.Text(v.units(text))
	if r, had := v.texts[key]; had {
		return r
	}
	v.texts[key] = text
	return text
}

// textOfPool: always the same thing for the same text; false if there is no room for it.
func (v *VM) textOfPool(text string) (heap.Ref, bool) {
	if r, had := v.texts[text]; had {
		return r, true
	}
	units, _ := pool.Units(text)
	r, ok := v.makeText(units)
	if ok {
		v.texts[text] = r
	}
	return r, ok
}

func (v *VM) makeText(units []uint16) (heap.Ref, bool) {
	r, ok := v.makeOf(stringName, 0, len(units))
	for k, u := range units {
		v.things.Set(r, k, uint64(u))
	}
	return r, ok
}

// units: of a text.
func (v *VM) units(text heap.Ref) []uint16 {
	_, n := v.things.Size(text)
	l := make([]uint16, n)
	for k := range n {
		u, _ := v.things.Word(text, k)
		l[k] = uint16(u)
	}
	return l
}
