package heap

import (
	"math"
	"testing"

	"jvmcore/api"
)

// want: an error, or none.
func want(t *testing.T, told string, is, e api.Errno) {
	t.Helper()
	if is != e {
		t.Fatalf("%s: %d, want %d", told, is, e)
	}
}

// fine: all of them OK.
func fine(t *testing.T, told string, list ...api.Errno) {
	t.Helper()
	for _, e := range list {
		want(t, told, e, api.OK)
	}
}

func wantWord(t *testing.T, s *Space, at, k int, x uint64) {
	t.Helper()
	if v, e := s.Word(at, k); v != x || e != api.OK {
		t.Fatalf("Word(%d, %d) = %d, %d, want %d", at, k, v, e, x)
	}
}

func wantSame(t *testing.T, s *Space, a, b int, is bool) {
	t.Helper()
	if v, e := s.Same(a, b); v != is || e != api.OK {
		t.Fatalf("Same(%d, %d) = %v, %d, want %v", a, b, v, e, is)
	}
}

func wantLive(t *testing.T, s *Space, n int) {
	t.Helper()
	if v := s.Collect(true); v != n {
		t.Fatalf("Collect(true) = %d, want %d", v, n)
	}
}

// rooms: of a small limit each, of a greater one some.
func rooms(limit int) []int {
	var list []int
	for room := 0; room <= limit; room += 1 + limit/40 {
		list = append(list, room)
	}
	return append(list, limit)
}

// Limits of 0 and a little more: what fits is 2 words, references and words together.
func TestSmallLimits(t *testing.T) {
	for limit := 0; limit <= 7; limit++ {
		for _, room := range rooms(limit) {
			for refs := 0; refs <= limit+2; refs++ {
				for words := 0; words <= limit+2; words++ {
					s := NewSpace(limit, room)
					e := api.OK
					if 2+refs+words > limit {
						e = api.ErrLimit
					}
					want(t, "Make", s.Make(3, refs, words), e)
					n := 0
					if e == api.OK {
						n = 2 + refs + words
					}
					wantLive(t, s, n)
				}
			}
		}
	}
}

// A limit below 0 leaves no room; a room that is none is the nearest that is one.
func TestWrongLimits(t *testing.T) {
	for _, limit := range []int{-1, -2, -3, math.MinInt, math.MinInt + 1} {
		for _, room := range []int{limit, -1, 0, 1, math.MaxInt, math.MinInt} {
			s := NewSpace(limit, room)
			for _, n := range []int{0, 1, 2, math.MaxInt} {
				want(t, "Make", s.Make(0, n, 0), api.ErrLimit)
				want(t, "Make", s.Make(0, 0, n), api.ErrLimit)
			}
			want(t, "Make", s.Make(0, -1, 0), api.ErrIndex)
			fine(t, "places", s.Copy(0, 1), s.Drop(15))
			wantSame(t, s, 0, 15, true)
			wantLive(t, s, 0)
		}
	}
	for _, room := range []int{-1, math.MinInt, 11, math.MaxInt} {
		s := NewSpace(10, room)
		fine(t, "Make", s.Make(0, 0, 3), s.Make(1, 3, 0))
		want(t, "Make", s.Make(2, 0, 0), api.ErrLimit)
		fine(t, "Set", s.Set(0, 2, 5))
		s.Collect(false)
		wantWord(t, s, 0, 2, 5)
		wantLive(t, s, 10)
	}
}

// A space that NewSpace did not make has no room, but panics as little.
func TestZeroSpace(t *testing.T) {
	var s Space
	want(t, "Make", s.Make(0, 0, 0), api.ErrLimit)
	want(t, "Put", s.Put(0, 0, 0), api.ErrIndex)
	fine(t, "Copy", s.Copy(0, 1))
	wantSame(t, &s, 0, 1, true)
	wantLive(t, &s, 0)
}

// full: a space whose places 0, 1 and 15 have things of several sizes, with 20 words left.
func full(t *testing.T, room int) (*Space, *model) {
	s, m := NewSpace(44, room), &model{limit: 44}
	for _, x := range []step{
		{op: mk, a: 0, b: 3, c: 4}, {op: mk, a: 1, b: 1, c: 1}, {op: mk, a: 15, b: 0, c: 0}, {op: mk, a: 2, b: 5, c: 2},
		{op: put, a: 0, b: 0, c: 1}, {op: put, a: 0, b: 2, c: 2}, {op: put, a: 1, b: 0, c: 0}, {op: put, a: 2, b: 4, c: 2},
		{op: set, a: 0, b: 3, x: 7}, {op: set, a: 1, b: 0, x: math.MaxUint64}, {op: set, a: 2, b: 1, x: 9}, {op: drop, a: 2},
	} {
		if is := s.do(x); is != m.do(x) || is.errno != api.OK {
			t.Fatalf("%s: %v", tell([]step{x}), is)
		}
	}
	return s, m
}

// With a place, a number or a size that is none: the error that is told, a zero beside it, and nothing changes.
func TestErrorsChangeNothing(t *testing.T) {
	wrong := []int{-1, 16, math.MinInt, math.MaxInt, 255, -16}
	var list []step
	for _, n := range wrong {
		for _, at := range []int{0, 15, 7, n} {
			list = append(list, step{op: mk, a: n, b: 0, c: 0}, step{op: mk, a: n, b: 99, c: 0}, step{op: mk, a: n, b: -1, c: 99},
				step{op: cp, a: n, b: at}, step{op: cp, a: at, b: n}, step{op: drop, a: n},
				step{op: put, a: n, b: 0, c: at}, step{op: put, a: at, b: 0, c: n}, step{op: get, a: n, b: at, c: 0}, step{op: get, a: at, b: n, c: 0},
				step{op: set, a: n, b: 0, x: 1}, step{op: word, a: n, b: 0}, step{op: same, a: n, b: at}, step{op: same, a: at, b: n})
		}
	}
	ks := []int{-1, math.MinInt, math.MaxInt}
	for at, sizes := range map[int][2]int{0: {3, 4}, 1: {1, 1}, 15: {0, 0}, 7: {0, 0}} {
		for _, k := range append(ks, sizes[0], sizes[0]+1) {
			list = append(list, step{op: put, a: at, b: k, c: 1}, step{op: put, a: at, b: k, c: 7}, step{op: get, a: 3, b: at, c: k}, step{op: get, a: at, b: at, c: k})
		}
		for _, k := range append(ks, sizes[1], sizes[1]+1) {
			list = append(list, step{op: set, a: at, b: k, x: 1}, step{op: word, a: at, b: k})
		}
	}
	for _, n := range []int{-1, math.MinInt} {
		list = append(list, step{op: mk, a: 0, b: n, c: 0}, step{op: mk, a: 0, b: 0, c: n}, step{op: mk, a: 0, b: n, c: 99}, step{op: mk, a: 0, b: 45, c: n}, step{op: mk, a: 0, b: n, c: n})
	}
	bad := len(list)
	for _, n := range []int{19, 20, 43, 44, 45, 1 << 31, 1 << 32, math.MaxInt - 2, math.MaxInt - 1, math.MaxInt} {
		for _, at := range []int{0, 1, 15, 7} {
			list = append(list, step{op: mk, a: at, b: n, c: 0}, step{op: mk, a: at, b: 0, c: n}, step{op: mk, a: at, b: n, c: n}, step{op: mk, a: at, b: n, c: 1}, step{op: mk, a: at, b: 1, c: n})
		}
	}
	for _, room := range []int{0, 5, 22, 44} {
		s, m := full(t, room)
		for k, x := range list {
			e := api.ErrIndex
			if k >= bad {
				e = api.ErrLimit
			}
			if is := s.do(x); is != (answer{errno: e}) || m.do(x) != is {
				t.Fatalf("room %d: %s: %v, want error %d", room, tell([]step{x}), is, e)
			}
			look(t, s, m, tell([]step{x}))
		}
		wantLive(t, s, 24)
	}
}

// The first and the last place are places, as each argument of each call.
func TestPlaces(t *testing.T) {
	for _, a := range []int{0, 15} {
		for _, b := range []int{0, 15} {
			s := NewSpace(30, 10)
			fine(t, "calls", s.Make(a, 1, 1), s.Set(a, 0, 8), s.Copy(b, a), s.Put(a, 0, b), s.Put(b, 0, a), s.Get(b, a, 0), s.Get(a, b, 0))
			wantWord(t, s, b, 0, 8)
			wantSame(t, s, a, b, true)
			wantLive(t, s, 4)
			fine(t, "Drop", s.Drop(a))
			wantSame(t, s, a, b, a == b)
		}
	}
}

// What just fits, and what is a word too many, whatever has gone.
func TestRoom(t *testing.T) {
	for _, room := range rooms(20) {
		s := NewSpace(20, room)
		want(t, "19 words", s.Make(0, 0, 19), api.ErrLimit)
		want(t, "19 together", s.Make(0, 10, 9), api.ErrLimit)
		fine(t, "18 together", s.Make(0, 9, 9))
		want(t, "what is at the place is counted yet", s.Make(0, 0, 0), api.ErrLimit)
		fine(t, "Drop", s.Drop(0), s.Make(0, 2, 6))
		want(t, "one too many beside it", s.Make(1, 4, 5), api.ErrLimit)
		want(t, "one too many instead of it", s.Make(0, 4, 5), api.ErrLimit)
		fine(t, "just fits, instead of it", s.Make(0, 4, 4))
		wantLive(t, s, 10)
		fine(t, "just fits, as the first has gone", s.Make(1, 0, 8))
		want(t, "no room", s.Make(2, 0, 0), api.ErrLimit)
		fine(t, "held elsewhere", s.Put(0, 3, 1), s.Drop(1))
		want(t, "it is reached yet", s.Make(1, 0, 0), api.ErrLimit)
		fine(t, "Copy", s.Copy(5, 0), s.Drop(0))
		want(t, "it is reached by another yet", s.Make(1, 0, 0), api.ErrLimit)
		fine(t, "Put of nothing", s.Put(5, 3, 1), s.Make(5, 0, 8))
		wantLive(t, s, 10)
	}
}

// A thing that goes leaves room at once, even if each one that is made takes all that is left.
func TestRoomAgainAndAgain(t *testing.T) {
	for _, room := range rooms(12) {
		s := NewSpace(12, room)
		fine(t, "one that stays", s.Make(0, 1, 1), s.Set(0, 0, 5))
		for k := 0; k < 200; k++ {
			at := 1 + k%15
			fine(t, "Make", s.Make(at, 3, 3), s.Put(at, k%3, 0), s.Put(0, 0, at))
			want(t, "no room", s.Make(at, 0, 0), api.ErrLimit)
			fine(t, "Drop", s.Drop(at))
			want(t, "no room", s.Make(at, 0, 0), api.ErrLimit)
			fine(t, "Put of nothing", s.Put(0, 0, at))
		}
		wantWord(t, s, 0, 0, 5)
		wantLive(t, s, 4)
	}
}

// Make at a place whose thing is held elsewhere leaves it there.
func TestMakeInstead(t *testing.T) {
	for _, room := range rooms(40) {
		s := NewSpace(40, room)
		fine(t, "calls", s.Make(0, 1, 1), s.Set(0, 0, 1), s.Copy(1, 0), s.Make(0, 1, 1), s.Set(0, 0, 2), s.Put(0, 0, 1), s.Make(1, 0, 1))
		wantWord(t, s, 1, 0, 0)
		wantWord(t, s, 0, 0, 2)
		fine(t, "Get", s.Get(2, 0, 0))
		wantWord(t, s, 2, 0, 1)
		wantLive(t, s, 11)
	}
}

// moves: what may be done with a space so that things move, or not.
func moves(s *Space) []func() {
	return []func(){
		func() {},
		func() { s.Collect(false) },
		func() { s.Collect(true) },
		func() { s.Collect(false); s.Collect(true) },
		func() {
			for k := 0; k < 50; k++ {
				s.Make(14, 1, 1)
			}
			s.Drop(14)
		},
	}
}

// Of a place and itself, of nothing, of a thing and itself.
func TestThemselves(t *testing.T) {
	for _, room := range rooms(30) {
		for k := range moves(nil) {
			s := NewSpace(30, room)
			move := moves(s)[k]
			fine(t, "Copy of nothing", s.Copy(3, 3), s.Copy(3, 4))
			wantSame(t, s, 3, 4, true)
			fine(t, "Make", s.Make(0, 2, 1), s.Set(0, 0, math.MaxUint64), s.Copy(0, 0))
			move()
			wantWord(t, s, 0, 0, math.MaxUint64)
			fine(t, "a thing into itself", s.Put(0, 1, 0))
			move()
			fine(t, "onto the place that it is got from", s.Get(0, 0, 1), s.Get(0, 0, 1))
			move()
			wantWord(t, s, 0, 0, math.MaxUint64)
			fine(t, "to and fro", s.Copy(1, 0), s.Drop(0), s.Copy(0, 1), s.Get(2, 1, 1))
			move()
			wantSame(t, s, 0, 1, true)
			wantSame(t, s, 2, 1, true)
			wantSame(t, s, 2, 3, false)
			wantSame(t, s, 2, 2, true)
			fine(t, "a thing like it", s.Make(3, 2, 1), s.Set(3, 0, math.MaxUint64))
			move()
			wantSame(t, s, 0, 3, false)
			fine(t, "Get of none", s.Get(3, 0, 0))
			wantSame(t, s, 3, 4, true)
			want(t, "Get of nothing", s.Get(0, 3, 0), api.ErrIndex)
			fine(t, "Get of none, onto itself", s.Get(2, 2, 0))
			wantSame(t, s, 2, 4, true)
			fine(t, "Set of 0", s.Set(0, 0, 0))
			move()
			wantWord(t, s, 1, 0, 0)
			wantLive(t, s, 5)
			fine(t, "Drop", s.Drop(0), s.Drop(1))
			wantLive(t, s, 0)
			fine(t, "room for all", s.Make(0, 14, 14))
		}
	}
}

// Rings, of one thing and more: they stay as long as one of them can be reached, and go as a whole.
func TestRings(t *testing.T) {
	for n := 1; n <= 12; n++ {
		limit := 4*n + 3
		for _, room := range rooms(limit) {
			s := NewSpace(limit, room)
			ring(t, s, n)
			fine(t, "Drop", s.Drop(1))
			for k := 0; k < 2*n; k++ {
				s.Collect(k%3 == 0)
				wantWord(t, s, 0, 0, uint64(n-1-k%n))
				fine(t, "round", s.Get(0, 0, 0))
			}
			wantLive(t, s, 4*n)
			want(t, "no room", s.Make(1, 1, 1), api.ErrLimit)
			fine(t, "Drop", s.Drop(0), s.Make(1, limit-2, 0))
			fine(t, "Drop", s.Drop(1))
			ring(t, s, n)
			fine(t, "two ways in", s.Copy(15, 1), s.Drop(0), s.Drop(1))
			s.Collect(false)
			wantLive(t, s, 4*n)
			fine(t, "Drop", s.Drop(15))
			s.Collect(false)
			wantLive(t, s, 0)
		}
	}
}

// ring: of n things, numbered; the last at 0, the first at 1.
func ring(t *testing.T, s *Space, n int) {
	t.Helper()
	fine(t, "first", s.Make(0, 1, 1), s.Copy(1, 0))
	for k := 1; k < n; k++ {
		fine(t, "next", s.Make(2, 1, 1), s.Set(2, 0, uint64(k)), s.Put(2, 0, 0), s.Copy(0, 2), s.Drop(2))
	}
	fine(t, "closed", s.Put(1, 0, 0))
}

// An old thing that refers to young ones: of these only those that it refers to stay, when only the young are looked at.
func TestOldToYoung(t *testing.T) {
	for _, room := range rooms(60) {
		s := NewSpace(60, room)
		fine(t, "old", s.Make(0, 4, 1), s.Set(0, 0, 50))
		s.Collect(true)
		for k := 0; k < 100; k++ {
			fine(t, "young", s.Make(1, 2, 1), s.Set(1, 0, uint64(k)), s.Put(1, 0, 0), s.Put(0, k%4, 1))
			if k%3 == 0 {
				fine(t, "and another behind it", s.Make(2, 0, 1), s.Set(2, 0, uint64(2*k)), s.Put(1, 1, 2), s.Drop(2))
			}
			fine(t, "put and put again", s.Put(0, (k+1)%4, 1), s.Put(0, (k+1)%4, 5), s.Put(0, (k+2)%4, 5), s.Drop(1))
			if k%2 == 0 {
				s.Collect(false)
			}
			fine(t, "Get", s.Get(3, 0, k%4), s.Get(4, 3, 0))
			wantWord(t, s, 3, 0, uint64(k))
			wantSame(t, s, 4, 0, true)
			fine(t, "Get", s.Get(4, 3, 1))
			if k%3 == 0 {
				wantWord(t, s, 4, 0, uint64(2*k))
			}
			fine(t, "Drop", s.Drop(3), s.Drop(4))
		}
		fine(t, "Get", s.Get(1, 0, 3), s.Get(2, 0, 2), s.Put(0, 3, 9), s.Put(0, 2, 9))
		wantWord(t, s, 1, 0, 99)
		fine(t, "Drop", s.Drop(1), s.Drop(2))
		wantLive(t, s, 7)
	}
}

// What is reached in several ways is counted once.
func TestCountedOnce(t *testing.T) {
	for _, room := range rooms(50) {
		s := NewSpace(50, room)
		fine(t, "one", s.Make(0, 0, 3))
		for at := 1; at < 16; at++ {
			fine(t, "Copy", s.Copy(at, 0))
		}
		wantLive(t, s, 5)
		fine(t, "all of one", s.Make(1, 4, 0), s.Put(1, 0, 0), s.Put(1, 1, 0), s.Put(1, 2, 0), s.Put(1, 3, 1), s.Make(2, 2, 0), s.Put(2, 0, 1), s.Put(2, 1, 0))
		wantLive(t, s, 15)
		if n := s.Collect(false); n != 0 {
			t.Fatalf("Collect(false) = %d", n)
		}
		wantLive(t, s, 15)
		fine(t, "Drop", s.Drop(1), s.Drop(0))
		wantLive(t, s, 15)
	}
}

// Long chains: made, gone through, cut; nothing calls itself so often that it would not end.
func TestLongChain(t *testing.T) {
	const n = 100000
	for _, room := range []int{0, 1000, 4 * n} {
		s := NewSpace(4*n, room)
		for k := 0; k < n; k++ {
			fine(t, "Make", s.Make(1, 1, 1), s.Set(1, 0, uint64(k)), s.Put(1, 0, 0), s.Copy(0, 1), s.Drop(1))
		}
		want(t, "no room", s.Make(1, 0, 0), api.ErrLimit)
		wantLive(t, s, 4*n)
		s.Copy(1, 0)
		for k := n - 1; k >= 0; k-- {
			wantWord(t, s, 1, 0, uint64(k))
			if k == n/2 {
				s.Copy(2, 1)
			}
			fine(t, "Get", s.Get(1, 1, 0))
		}
		wantSame(t, s, 1, 9, true)
		fine(t, "cut", s.Put(2, 0, 1))
		wantLive(t, s, 4*(n-n/2))
		fine(t, "Drop", s.Drop(0))
		wantLive(t, s, 4)
		fine(t, "Drop", s.Drop(2), s.Make(3, 4*n-2, 0))
	}
}

// Wide things: of thousands of references and words, each of them as it was put.
func TestWide(t *testing.T) {
	for _, n := range []int{near - 1, near, near + 1, 20000} {
		limit := 2*n + 2 + 3*n
		for _, room := range []int{0, 100, limit} {
			s := NewSpace(limit, room)
			fine(t, "wide", s.Make(0, n, n))
			for k := 0; k < n; k++ {
				fine(t, "young", s.Make(1, 0, 1), s.Set(1, 0, uint64(k)), s.Put(0, k, 1), s.Set(0, k, ^uint64(k)))
				if k%1500 == 0 {
					s.Collect(k%1000 == 0)
				}
			}
			want(t, "no room", s.Make(1, 0, 0), api.ErrLimit)
			want(t, "beyond", s.Put(0, n, 0), api.ErrIndex)
			want(t, "beyond", s.Set(0, n, 0), api.ErrIndex)
			wantLive(t, s, limit)
			for k := 0; k < n; k++ {
				fine(t, "Get", s.Get(1, 0, k))
				wantWord(t, s, 1, 0, uint64(k))
				wantWord(t, s, 0, k, ^uint64(k))
			}
			for k := 0; k < n; k += 2 {
				fine(t, "Put of nothing", s.Put(0, k, 9))
			}
			fine(t, "Drop", s.Drop(1))
			wantLive(t, s, 2*n+2+3*(n/2))
		}
	}
}

// The greatest numbers that there are: no sum wraps round, and what there is room for is made.
func TestGreatest(t *testing.T) {
	const most = math.MaxInt
	for _, room := range []int{0, 1000, most / 2, most} {
		s := NewSpace(most, room)
		for _, c := range [][2]int{{most, 0}, {0, most}, {most - 1, 0}, {0, most - 1}, {most, most}, {most - 1, most - 1}, {most - 2, 1}, {1, most - 2}, {most / 2, most/2 + 1}, {most/2 + 1, most/2 + 1}} {
			want(t, "too many", s.Make(0, c[0], c[1]), api.ErrLimit)
		}
		fine(t, "all", s.Make(0, most-2, 0), s.Put(0, most-3, 0), s.Put(0, most/2, 0))
		want(t, "beyond", s.Put(0, most-2, 0), api.ErrIndex)
		want(t, "no room", s.Make(1, 0, 0), api.ErrLimit)
		wantLive(t, s, most)
		fine(t, "Get", s.Get(1, 0, most-3), s.Get(2, 0, most-4), s.Get(3, 0, most/2), s.Get(4, 0, 0))
		wantSame(t, s, 0, 1, true)
		wantSame(t, s, 0, 2, false)
		wantSame(t, s, 0, 3, true)
		wantSame(t, s, 5, 4, true)
		want(t, "a reference to itself is counted once, and there is none left", s.Make(5, 0, 0), api.ErrLimit)
		fine(t, "Drop", s.Drop(0), s.Drop(1), s.Drop(3))
		fine(t, "all words", s.Make(0, 0, most-2), s.Set(0, most-3, 9), s.Set(0, 0, 8))
		wantLive(t, s, most)
		wantWord(t, s, 0, most-3, 9)
		wantWord(t, s, 0, most-4, 0)
		wantWord(t, s, 0, 0, 8)
		fine(t, "Drop", s.Drop(0))
		fine(t, "half each", s.Make(0, 0, most/2-2), s.Make(1, most/2-1, 0))
		want(t, "no room", s.Make(2, 0, 0), api.ErrLimit)
		wantLive(t, s, most)
	}
}

// No space hangs on another.
func TestSpacesApart(t *testing.T) {
	a, b := NewSpace(10, 5), NewSpace(10, 5)
	fine(t, "calls", a.Make(0, 0, 8), b.Make(0, 1, 1), b.Set(0, 0, 3), a.Set(0, 0, 4))
	wantLive(t, a, 10)
	wantLive(t, b, 4)
	wantWord(t, b, 0, 0, 3)
	wantWord(t, a, 0, 0, 4)
	fine(t, "Drop", a.Drop(0))
	wantLive(t, b, 4)
}
