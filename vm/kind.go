package vm

import (
	"jvmcore/api"
	"jvmcore/heap"
)

// kind: of things: a class, or an array.
type kind struct {
	name        string
	refs, words int                // of a class: how many fields of a thing are references, and how many are not
	places      map[api.Member]int // of its fields, among the one or the other
}

// numberOf: of the kind of a class that was found right, or of an array.
func (v *VM) numberOf(name string) int {
	if n, had := v.numbers[name]; had {
		return n
	}
	k := kind{name: name, places: map[api.Member]int{}}
	fields, _ := v.world.Layout(name)
	for _, f := range fields {
		if isReference(f.Type) {
			k.places[f] = k.refs
			k.refs++
		} else {
			k.places[f] = k.words
			k.words++
		}
	}
	v.numbers[name] = len(v.kinds)
	v.kinds = append(v.kinds, k)
	return v.numbers[name]
}

// kindOf: of a thing; one without a name of none.
func (v *VM) kindOf(r heap.Ref) kind {
	if r == heap.None {
		return kind{}
	}
	return v.kinds[v.things.Kind(r)]
}

// elements: the descriptor of what is in an array.
func (k kind) elements() string {
	if k.name == "" || k.name[0] != '[' {
		return ""
	}
	return k.name[1:]
}

// makeOf: a thing of a kind, of so many references and words, if there is room.
func (v *VM) makeOf(name string, refs, words int) (heap.Ref, bool) {
	r, ok := v.things.Make(holder{v}, refs, words)
	v.things.SetKind(r, v.numberOf(name))
	return r, ok
}

// makeThing: of a class that was found right.
func (v *VM) makeThing(name string) (heap.Ref, bool) {
	k := v.kinds[v.numberOf(name)]
	return v.makeOf(name, k.refs, k.words)
}

// makeArray: of so many elements.
func (v *VM) makeArray(name string, n int) (heap.Ref, bool) {
	if isReference(name[1:]) {
		return v.makeOf(name, n, 0)
	}
	return v.makeOf(name, 0, n)
}

// makeDeep: an array, and in it arrays of the next number, and so on, each ahead of what is in it.
func (v *VM) makeDeep(name string, numbers []int) (heap.Ref, bool) {
	r, ok := v.makeArray(name, numbers[0])
	if !ok || len(numbers) == 1 {
		return r, ok
	}
	at := len(v.making)
	v.making = append(v.making, r)
	for k := range numbers[0] {
		inner, made := v.makeDeep(name[1:], numbers[1:])
		if !made {
			v.making = v.making[:at]
			return heap.None, false
		}
		v.things.Put(v.making[at], k, inner)
	}
	r = v.making[at]
	v.making = v.making[:at]
	return r, true
}

// slot: the value of a descriptor at a place of a thing. setSlot: it is another.
func (v *VM) slot(thing heap.Ref, of string, place int) value {
	var x value
	if isReference(of) {
		x.ref, _ = v.things.Get(thing, place)
	} else {
		x.bits, _ = v.things.Word(thing, place)
	}
	return x
}

func (v *VM) setSlot(thing heap.Ref, of string, place int, x value) {
	if isReference(of) {
		v.things.Put(thing, place, x.ref)
	} else {
		v.things.Set(thing, place, narrow(of, x.bits))
	}
}
