package verify

import (
	"slices"

	"jvmcore/api"
)

// state: what is known of values ahead of an instruction.
type state struct {
	locals []api.VType // one for each slot; all behind these are Top
	stack  []api.VType // the lowest first
	height int         // how many slots the stack takes
	half   bool        // half made
	turn   int         // another, whenever locals or half are others
}

func (s *state) local(k int) api.VType {
	if k < len(s.locals) {
		return s.locals[k]
	}
	return topType
}

// setLocal: no matter what becomes of others.
func (s *state) setLocal(k int, t api.VType) {
	for len(s.locals) <= k {
		s.locals = append(s.locals, topType)
	}
	s.locals[k] = t
	s.turn++
}

// store: into a local. What half of a wide value is left is none.
func (s *state) store(k int, t api.VType) {
	if k > 0 && isWide(s.local(k-1)) {
		s.setLocal(k-1, topType)
	}
	s.setLocal(k, t)
	if isWide(t) {
		s.setLocal(k+1, topType)
	}
}

// enter: the state is that of a frame now.
func (s *state) enter(f frame) {
	s.locals = spread(s.locals[:0], f.Locals...)
	s.stack = append(s.stack[:0], f.Stack...)
	s.height = slots(f.Stack...)
	s.half = f.half
	s.turn++
}

// pop: takes what is at the top.
func (s *state) pop() api.VType {
	need(len(s.stack) > 0)
	last := len(s.stack) - 1
	t := s.stack[last]
	s.stack = s.stack[:last]
	s.height -= slots(t)
	return t
}

// takeReference: of whatever kind.
func (s *state) takeReference() api.VType {
	t := s.pop()
	need(isReference(t))
	return t
}

// takeSlots: so many from the top, in their order. No wide value may be cut. The list lies where the stack lay: it is cut so that it can't grow there.
func (s *state) takeSlots(n int) []api.VType {
	end := len(s.stack)
	from := end
	for taken := 0; taken < n; taken = slots(s.stack[from:]...) {
		need(from > 0)
		from--
	}
	l := s.stack[from:end:end]
	need(slots(l...) == n)
	s.stack = s.stack[:from]
	s.height -= n
	return l
}

// swap: all of one type are of another.
func (s *state) swap(one, other api.VType) {
	swapIn(s.locals, one, other)
	swapIn(s.stack, one, other)
	s.turn++
}

func swapIn(l []api.VType, one, other api.VType) {
	for k := range l {
		if l[k] == one {
			l[k] = other
		}
	}
}

// onStack: is one of a type there?
func (s *state) onStack(t api.VType) bool {
	return slices.Contains(s.stack, t)
}
