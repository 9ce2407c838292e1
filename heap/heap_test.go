package heap

import (
	"math"
	"math/rand"
	"testing"
)

// list: a holder of any number of references.
type list []Ref

func (l list) Turn(turn func(Ref) Ref) {
	for k, r := range l {
		l[k] = turn(r)
	}
}

// Whoever holds references, however many, has them turned; those to none stay so.
func TestHolder(t *testing.T) {
	for _, room := range rooms(400) {
		h := New(400, room)
		held := list{}
		for k := 0; k < 100; k++ {
			r, ok := h.Make(held, 1, 1)
			if !ok || !h.Set(r, 0, uint64(k)) {
				t.Fatalf("room %d: Make %d", room, k)
			}
			held = append(held, r)
		}
		if _, ok := h.Make(held, 0, 0); ok {
			t.Fatalf("room %d: Make when there is no room", room)
		}
		for k := 0; k < 100; k += 3 {
			held[k] = None
		}
		if n := h.Collect(held, true); n != 4*66 {
			t.Fatalf("room %d: %d words", room, n)
		}
		for k, r := range held {
			x, ok := h.Word(r, 0)
			if k%3 == 0 && (ok || r != None) || k%3 != 0 && (!ok || x != uint64(k)) {
				t.Fatalf("room %d: %d: %d, %v", room, k, x, ok)
			}
		}
	}
}

// A reference to none, or beyond the tables, is to no thing.
func TestNoThing(t *testing.T) {
	h := New(100, 50)
	h.Make(list{}, 1, 1)
	h.Make(list{}, 60, 0)
	for _, r := range []Ref{None, 2, -2, 3, -3, math.MaxInt, math.MinInt} {
		_, got := h.Get(r, 0)
		_, is := h.Word(r, 0)
		h.SetKind(r, 7)
		h.SetMark(r, 7)
		refs, words := h.Size(r)
		if got || is || h.Put(r, 0, None) || h.Set(r, 0, 1) || h.Kind(r) != 0 || h.Mark(r) != nil || refs != 0 || words != 0 {
			t.Errorf("a thing at %d", r)
		}
	}
}

// What a thing is, and its size, go with it wherever it moves; a new one at the place of one that has gone is of no kind.
func TestKind(t *testing.T) {
	for _, room := range rooms(300) {
		h := New(300, room)
		held := list{}
		for k := range 20 {
			r, ok := h.Make(held, k%4, k%3)
			if !ok || h.Kind(r) != 0 {
				t.Fatalf("room %d: Make %d: %v, of kind %d", room, k, ok, h.Kind(r))
			}
			h.SetKind(r, k+1)
			held = append(held, r)
		}
		for turn := range 3 {
			for k, r := range held {
				refs, words := h.Size(r)
				if r == None && (h.Kind(r) != 0 || refs != 0 || words != 0) || r != None && (h.Kind(r) != k+1 || refs != k%4 || words != k%3) {
					t.Fatalf("room %d, turn %d, thing %d: kind %d, %d references, %d words", room, turn, k, h.Kind(r), refs, words)
				}
			}
			h.Collect(held, turn == 1)
			held[turn] = None
		}
		if r, _ := h.Make(held, 0, 0); h.Kind(r) != 0 {
			t.Fatalf("room %d: a new thing is of kind %d", room, h.Kind(r))
		}
	}
}

// So does what is kept beside it.
func TestMark(t *testing.T) {
	for _, room := range rooms(300) {
		h := New(300, room)
		held := list{}
		marks := make([]*int, 20)
		for k := range marks {
			r, ok := h.Make(held, k%4, k%3)
			if !ok || h.Mark(r) != nil {
				t.Fatalf("room %d: Make %d: %v, with a mark", room, k, ok)
			}
			held = append(held, r)
			if k%5 > 0 {
				marks[k] = new(int)
				h.SetMark(r, marks[k])
			}
		}
		for turn := range 3 {
			for k, r := range held {
				if got, has := h.Mark(r).(*int); has != (r != None && k%5 > 0) || has && got != marks[k] {
					t.Fatalf("room %d, turn %d, thing %d: mark %v", room, turn, k, got)
				}
			}
			h.Collect(held, turn == 1)
			held[turn] = None
		}
		if r, _ := h.Make(held, 0, 0); h.Mark(r) != nil {
			t.Fatalf("room %d: a new thing has a mark", room)
		}
	}
}

// In a great heap what cannot be reached does not pile up till it is full; what has gone is cleared.
func TestNothingPilesUp(t *testing.T) {
	for _, room := range []int{0, 1000, math.MaxInt} {
		s := NewSpace(math.MaxInt, room)
		for k := 0; k < 1200000; k++ {
			s.Make(k%3, 1, 1)
			s.Set(k%3, 0, 1)
			s.Put(k%3, 0, k%3)
		}
		if n := len(s.things.old.things) + len(s.things.young.things); n > (mostYoung+leastAll)/4+3 {
			t.Errorf("room %d: %d things", room, n)
		}
		wantLive(t, s, 12)
		for _, list := range [][]thing{s.things.young.things, s.things.spare, s.things.old.things[3:]} {
			for _, x := range list[:cap(list)] {
				if x.size() != Head || x.refs.side != nil || x.words.side != nil || x.moved != None {
					t.Fatalf("room %d: what has gone is yet there: %v", room, x)
				}
			}
		}
	}
}

// All are looked at seldom: while a great heap grows, so seldom that it takes no long time.
func TestGrows(t *testing.T) {
	for _, room := range []int{0, 30, math.MaxInt} {
		s := NewSpace(math.MaxInt, room)
		for k := 0; k < 400000; k++ {
			s.Make(1, 1, 1)
			s.Set(1, 0, uint64(k))
			s.Put(1, 0, 0)
			s.Copy(0, 1)
		}
		wantWord(t, s, 0, 0, 399999)
		wantLive(t, s, 1600000)
	}
}

// sound: the tables of a heap are as the collector leans on.
func sound(t *testing.T, h *Heap) {
	t.Helper()
	for _, x := range []table{h.young, h.old} {
		n := 0
		for _, y := range x.things {
			n += y.size()
			if y.moved != None {
				t.Fatalf("a thing has moved and is yet there")
			}
		}
		if n != x.words {
			t.Fatalf("%d words, counted %d", n, x.words)
		}
	}
	if h.young.words > h.room || h.words() > max(h.limit, 0) {
		t.Fatalf("%d words of %d, %d young ones of %d", h.words(), h.limit, h.young.words, h.room)
	}
	for at, x := range h.old.things {
		for k, r := range x.refs.side {
			if _, ok := h.crossed[slot{Ref(at + 1), k}]; r < None && !ok {
				t.Fatalf("an old thing refers to a young one, and that is not told")
			}
		}
	}
}

// The young have no more than their room, and are no more when they have been looked at; the old stay till all are looked at.
func TestTables(t *testing.T) {
	r := rand.New(rand.NewSource(99))
	for round := 0; round < 500; round++ {
		limit := r.Intn(80)
		s := NewSpace(limit, r.Intn(limit+1))
		for k := 0; k < 60; k++ {
			x := anyStep(r, limit)
			before := len(s.things.old.things)
			s.do(x)
			sound(t, &s.things)
			if x.op == some && (s.things.young.words != 0 || len(s.things.old.things) < before) {
				t.Fatalf("the young: %d words; the old: %d things, %d ahead of it", s.things.young.words, len(s.things.old.things), before)
			}
		}
	}
}

// When there is no more room for the young, only they are looked at: what cannot be reached of the old is there yet.
func TestYoungOften(t *testing.T) {
	s := NewSpace(1000, 12)
	s.Make(0, 0, 98)
	s.Drop(0)
	for k := 0; k < 30; k++ {
		fine(t, "Make", s.Make(1, 1, 1))
		if n := s.things.young.words; n != 4+4*(k%3) {
			t.Fatalf("%d: the young have %d words", k, n)
		}
	}
	if n := s.things.old.words; n != 100+9*4 {
		t.Errorf("the old have %d words", n)
	}
	wantLive(t, s, 4)
}
