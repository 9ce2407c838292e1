package heap

// Collect: what cannot be reached from what is held goes: of the young, or of all; how many words are left.
func (h *Heap) Collect(from Holder, all bool) int {
	if all {
		h.collectAll(from)
	} else {
		h.collectYoung(from)
	}
	return h.words()
}

func (h *Heap) words() int { return h.young.words + h.old.words }

// makeRoom: is there room for so many words, when what cannot be reached has gone?
func (h *Heap) makeRoom(from Holder, size int) bool {
	full := size > h.next-h.words()
	if full || size <= h.room && size > h.room-h.young.words {
		h.collectYoung(from)
	}
	if size > h.next-h.words() {
		h.collectAll(from)
		h.next = h.until(size)
	}
	return size <= h.limit-h.words()
}

// until: how many words there may be till all are looked at again: twice those that there are with so many more, so that they are looked at seldom.
func (h *Heap) until(size int) int {
	if size >= h.limit/2-h.words() {
		return h.limit
	}
	return min(h.limit, max(leastAll, 2*(size+h.words())))
}

// collectYoung: the young that can be reached go among the old.
func (h *Heap) collectYoung(from Holder) {
	young, first := h.young.things, len(h.old.things)
	turn := func(r Ref) Ref {
		if r < None {
			return h.move(&young[-r-1])
		}
		return r
	}
	for s := range h.crossed {
		r := turn(h.at(s.of).refs.get(s.k))
		h.at(s.of).refs.set(s.k, r)
	}
	h.settle(first, turn, from)
}

// collectAll: all that can be reached go into the table that is spare.
func (h *Heap) collectAll(from Holder) {
	young, old := h.young.things, h.old.things
	h.old = table{things: h.spare}
	turn := func(r Ref) Ref {
		switch {
		case r < None:
			return h.move(&young[-r-1])
		case r > None:
			return h.move(&old[r-1])
		}
		return r
	}
	h.settle(0, turn, from)
	clear(old)
	h.spare = old[:0]
}

// move: where a thing is now, among the old. It goes there once.
func (h *Heap) move(t *thing) Ref {
	if t.moved == None {
		t.moved = Ref(h.old.add(*t))
	}
	return t.moved
}

// settle: whoever holds references turns them, and so does all that has moved for it, from the first on; then nobody refers to the young any more.
func (h *Heap) settle(first int, turn func(Ref) Ref, from Holder) {
	from.Turn(turn)
	for at := first; at < len(h.old.things); at++ {
		refs := h.old.things[at].refs // a copy, as the table may grow while they are turned
		refs.turn(turn)
	}
	clear(h.young.things)
	h.young.things, h.young.words = h.young.things[:0], 0
	h.crossed = nil
}
