package heap

import "jvmcore/api"

// Space: a heap with sixteen places from outside.
type Space struct {
	things Heap
	places places
}

// places: the things that are held from outside.
type places [16]Ref

// NewSpace: of limit words, room of them for the young.
func NewSpace(limit, room int) *Space {
	return &Space{things: New(limit, room)}
}

// Turn: of the references that places hold.
func (p *places) Turn(turn func(Ref) Ref) {
	for at, r := range p {
		p[at] = turn(r)
	}
}

func (p *places) has(at int) bool { return at >= 0 && at < len(p) }

// Make: a thing at a place. Copy, Drop: of places.
func (s *Space) Make(at, refs, words int) api.Errno {
	if !s.places.has(at) || refs < 0 || words < 0 {
		return api.ErrIndex
	}
	r, ok := s.things.Make(&s.places, refs, words)
	if !ok {
		return api.ErrLimit
	}
	s.places[at] = r
	return api.OK
}

func (s *Space) Copy(to, from int) api.Errno {
	if !s.places.has(to) || !s.places.has(from) {
		return api.ErrIndex
	}
	s.places[to] = s.places[from]
	return api.OK
}

func (s *Space) Drop(at int) api.Errno {
	if !s.places.has(at) {
		return api.ErrIndex
	}
	s.places[at] = None
	return api.OK
}

// Put, Get: references. Set, Word: words.
func (s *Space) Put(at, k, from int) api.Errno {
	if !s.places.has(at) || !s.places.has(from) {
		return api.ErrIndex
	}
	return found(s.things.Put(s.places[at], k, s.places[from]))
}

func (s *Space) Get(to, at, k int) api.Errno {
	if !s.places.has(to) || !s.places.has(at) {
		return api.ErrIndex
	}
	r, ok := s.things.Get(s.places[at], k)
	if ok {
		s.places[to] = r
	}
	return found(ok)
}

func (s *Space) Set(at, k int, x uint64) api.Errno {
	if !s.places.has(at) {
		return api.ErrIndex
	}
	return found(s.things.Set(s.places[at], k, x))
}

func (s *Space) Word(at, k int) (uint64, api.Errno) {
	if !s.places.has(at) {
		return 0, api.ErrIndex
	}
	x, ok := s.things.Word(s.places[at], k)
	return x, found(ok)
}

// found: the error, if what is at a place has no such number.
func found(ok bool) api.Errno {
	if !ok {
		return api.ErrIndex
	}
	return api.OK
}

// Same: is the same at two places?
func (s *Space) Same(a, b int) (bool, api.Errno) {
	if !s.places.has(a) || !s.places.has(b) {
		return false, api.ErrIndex
	}
	return s.places[a] == s.places[b], api.OK
}

// Collect: what cannot be reached goes: of the young; or of all: how many words can be reached.
func (s *Space) Collect(all bool) int {
	left := s.things.Collect(&s.places, all)
	if !all {
		return 0
	}
	return left
}
