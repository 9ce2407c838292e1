package heap

import (
	"math"
	"math/rand"
	"testing"

	"jvmcore/api"
)

// plain: a thing of the model, which is never collected and never moves.
type plain struct {
	refs  []*plain
	words []uint64
}

// model: what the document says of a space, with every thing that can be reached counted whenever it is asked.
type model struct {
	limit  int
	places [16]*plain
}

// step: a call: its name, arguments, and a word.
type step struct {
	op      byte
	a, b, c int
	x       uint64
}

// answer: what a call tells.
type answer struct {
	errno api.Errno
	x     uint64
	is    bool
	n     int
}

// The steps: Make, Copy, Drop, Put, Get, Set, Word, Same; Collect of the young, and of all.
const (
	mk   = 'M'
	cp   = 'C'
	drop = 'D'
	put  = 'P'
	get  = 'G'
	set  = 'S'
	word = 'W'
	same = '='
	some = 'y'
	all  = 'a'
)

func (s *Space) do(x step) answer {
	switch x.op {
	case mk:
		return answer{errno: s.Make(x.a, x.b, x.c)}
	case cp:
		return answer{errno: s.Copy(x.a, x.b)}
	case drop:
		return answer{errno: s.Drop(x.a)}
	case put:
		return answer{errno: s.Put(x.a, x.b, x.c)}
	case get:
		return answer{errno: s.Get(x.a, x.b, x.c)}
	case set:
		return answer{errno: s.Set(x.a, x.b, x.x)}
	case word:
		v, e := s.Word(x.a, x.b)
		return answer{errno: e, x: v}
	case same:
		is, e := s.Same(x.a, x.b)
		return answer{errno: e, is: is}
	case some:
		return answer{n: s.Collect(false)}
	case all:
		return answer{n: s.Collect(true)}
	}
	panic("no step")
}

func (m *model) do(x step) answer {
	bad := answer{errno: api.ErrIndex}
	switch x.op {
	case mk:
		return answer{errno: m.make(x.a, x.b, x.c)}
	case cp, same:
		if !place(x.a) || !place(x.b) {
			return bad
		}
		if x.op == same {
			return answer{is: m.places[x.a] == m.places[x.b]}
		}
		m.places[x.a] = m.places[x.b]
	case drop:
		if !place(x.a) {
			return bad
		}
		m.places[x.a] = nil
	case put:
		if !m.hasRef(x.a, x.b) || !place(x.c) {
			return bad
		}
		m.places[x.a].refs[x.b] = m.places[x.c]
	case get:
		if !place(x.a) || !m.hasRef(x.b, x.c) {
			return bad
		}
		m.places[x.a] = m.places[x.b].refs[x.c]
	case set, word:
		if !m.hasWord(x.a, x.b) {
			return bad
		}
		if x.op == word {
			return answer{x: m.places[x.a].words[x.b]}
		}
		m.places[x.a].words[x.b] = x.x
	case all:
		return answer{n: m.live()}
	}
	return answer{}
}

func place(at int) bool { return 0 <= at && at <= 15 }

func (m *model) hasRef(at, k int) bool {
	return place(at) && m.places[at] != nil && 0 <= k && k < len(m.places[at].refs)
}

func (m *model) hasWord(at, k int) bool {
	return place(at) && m.places[at] != nil && 0 <= k && k < len(m.places[at].words)
}

func (m *model) make(at, refs, words int) api.Errno {
	if !place(at) || refs < 0 || words < 0 {
		return api.ErrIndex
	}
	// floats: no sum of these wraps round, and near the limits of the model none is rounded
	if refs > m.limit || words > m.limit || 2+float64(refs)+float64(words)+float64(m.live()) > float64(m.limit) {
		return api.ErrLimit
	}
	m.places[at] = &plain{make([]*plain, refs), make([]uint64, words)}
	return api.OK
}

// reached: every thing that can be, with a way to it: a place, then numbers of references.
func (m *model) reached() ([]*plain, map[*plain][]int) {
	var list []*plain
	ways := map[*plain][]int{}
	for at, t := range m.places {
		if t != nil && ways[t] == nil {
			list, ways[t] = append(list, t), []int{at}
		}
	}
	for at := 0; at < len(list); at++ {
		for k, t := range list[at].refs {
			if t != nil && ways[t] == nil {
				list, ways[t] = append(list, t), append(append([]int(nil), ways[list[at]]...), k)
			}
		}
	}
	return list, ways
}

func (m *model) live() int {
	seen := map[*plain]bool{}
	var work []*plain
	n := 0
	note := func(t *plain) {
		if t != nil && !seen[t] {
			seen[t] = true
			work = append(work, t)
			n += 2 + len(t.refs) + len(t.words)
		}
	}
	for _, t := range m.places {
		note(t)
	}
	for len(work) > 0 {
		t := work[len(work)-1]
		work = work[:len(work)-1]
		for _, r := range t.refs {
			note(r)
		}
	}
	return n
}

// The places that looking at a space uses: steps leave them empty.
const (
	eye   = 9
	other = 10
	third = 11
)

// look: everything that can be asked of a space is as the model has it. Nothing is changed.
func look(t *testing.T, s *Space, m *model, told string) {
	t.Helper()
	for a := -1; a <= 16; a++ {
		for b := -1; b <= 16; b++ {
			if x := (step{op: same, a: a, b: b}); s.do(x) != m.do(x) {
				t.Fatalf("%s: Same(%d, %d) = %v, want %v", told, a, b, s.do(x), m.do(x))
			}
		}
	}
	list, ways := m.reached()
	for _, x := range list {
		walk(t, s, eye, ways[x])
		for k := -1; k <= len(x.words); k++ {
			v, e := s.Word(eye, k)
			if has := 0 <= k && k < len(x.words); has != (e == api.OK) || has && v != x.words[k] || !has && v != 0 {
				t.Fatalf("%s: at %v: word %d: %d, %d", told, ways[x], k, v, e)
			}
		}
		for k := -1; k <= len(x.refs); k++ {
			lookRef(t, s, ways, x, k, told)
		}
	}
	s.Drop(eye)
	s.Drop(other)
	s.Drop(third)
}

// lookRef: the k-th reference of what the eye is at.
func lookRef(t *testing.T, s *Space, ways map[*plain][]int, x *plain, k int, told string) {
	t.Helper()
	s.Drop(third)
	e := s.Get(other, eye, k)
	if k < 0 || k == len(x.refs) {
		if e != api.ErrIndex {
			t.Fatalf("%s: at %v: reference %d: %d", told, ways[x], k, e)
		}
		return
	}
	if x.refs[k] != nil {
		walk(t, s, third, ways[x.refs[k]])
	}
	if is, _ := s.Same(other, third); e != api.OK || !is {
		t.Fatalf("%s: at %v: reference %d: %d, %v", told, ways[x], k, e, is)
	}
}

func walk(t *testing.T, s *Space, at int, way []int) {
	t.Helper()
	if e := s.Copy(at, way[0]); e != api.OK {
		t.Fatalf("Copy: %d", e)
	}
	for _, k := range way[1:] {
		if e := s.Get(at, at, k); e != api.OK {
			t.Fatalf("Get on the way %v: %d", way, e)
		}
	}
}

// try: a list of steps answers as the model does; looked at after each step, or at the end.
func try(t *testing.T, limit, room int, list []step, often bool) {
	t.Helper()
	s, m := NewSpace(limit, room), &model{limit: limit}
	for k, x := range list {
		is, want := s.do(x), m.do(x)
		if is != want {
			t.Fatalf("limit %d, room %d: step %d of %s: %v, want %v", limit, room, k, tell(list[:k+1]), is, want)
		}
		if often || k == len(list)-1 {
			look(t, s, m, tell(list[:k+1]))
		}
	}
}

func tell(list []step) string {
	out := []byte{}
	for _, x := range list {
		out = append(out, x.op)
		for _, n := range []int{x.a, x.b, x.c} {
			out = append(out, ' ')
			if n < 0 {
				out = append(out, '-')
				n = -n
			}
			out = append(out, byte('0'+n%10))
			if n > 9 {
				out = append(out, '+')
			}
		}
		out = append(out, ';', ' ')
	}
	return string(out)
}

// anyStep: a step of a small space, most often one that is no error.
func anyStep(r *rand.Rand, limit int) step {
	at := func() int {
		if r.Intn(25) == 0 {
			return []int{-1, 16, 15, math.MinInt, math.MaxInt}[r.Intn(5)]
		}
		return []int{0, 1, 2, 15}[r.Intn(4)]
	}
	few := func() int {
		if r.Intn(12) == 0 {
			return []int{-1, limit, limit + 1, math.MaxInt, limit / 2, limit - 2}[r.Intn(6)]
		}
		return r.Intn(4)
	}
	k := func() int { return r.Intn(5) - 1 }
	switch op := "MMMMCDDPPPPPGGGSSW=ya"[r.Intn(21)]; op {
	case mk:
		return step{op: op, a: at(), b: few(), c: few()}
	case put:
		return step{op: op, a: at(), b: k(), c: at()}
	case get:
		return step{op: op, a: at(), b: at(), c: k()}
	case set, word:
		return step{op: op, a: at(), b: k(), x: r.Uint64() >> uint(r.Intn(64))}
	default:
		return step{op: op, a: at(), b: at()}
	}
}

// Every step of small spaces, whatever goes when, is as the model has it.
func TestRandomSteps(t *testing.T) {
	r := rand.New(rand.NewSource(9))
	for round := 0; round < 4000; round++ {
		limit := r.Intn(60)
		list := make([]step, 1+r.Intn(80))
		for k := range list {
			list[k] = anyStep(r, limit)
		}
		try(t, limit, r.Intn(limit+1), list, round%8 == 0)
	}
}

// Every list of three steps, of a few kinds, in spaces of every small limit and room.
func TestAllShortLists(t *testing.T) {
	var kinds []step
	for _, at := range []int{0, 15} {
		for n := 0; n < 4; n++ {
			kinds = append(kinds, step{op: mk, a: at, b: n & 1, c: n >> 1})
		}
		for _, of := range []int{0, 15} {
			kinds = append(kinds, step{op: cp, a: at, b: of}, step{op: put, a: at, c: of}, step{op: get, a: at, b: of})
		}
		kinds = append(kinds, step{op: drop, a: at}, step{op: set, a: at, x: uint64(at) + 1})
	}
	kinds = append(kinds, step{op: some}, step{op: all})
	for limit := 0; limit <= 8; limit++ {
		for room := 0; room <= limit; room += 1 + limit/4 {
			for n := 0; n < len(kinds)*len(kinds)*len(kinds); n++ {
				a, b, c := kinds[n%len(kinds)], kinds[n/len(kinds)%len(kinds)], kinds[n/len(kinds)/len(kinds)]
				tryShort(t, limit, room, []step{a, b, c, {op: all}})
			}
		}
	}
}

// tryShort: the answers alone, as there are so many lists.
func tryShort(t *testing.T, limit, room int, list []step) {
	s, m := NewSpace(limit, room), &model{limit: limit}
	for k, x := range list {
		if is, want := s.do(x), m.do(x); is != want {
			t.Fatalf("limit %d, room %d: %s: %v, want %v", limit, room, tell(list[:k+1]), is, want)
		}
	}
}

// Collect among the steps, of the young or of all, after each or now and then, and any room for the young: the other steps answer the same.
func TestNothingIsSeen(t *testing.T) {
	r := rand.New(rand.NewSource(90))
	for round := 0; round < 600; round++ {
		limit := r.Intn(50)
		list := make([]step, 60)
		for k := range list {
			for list[k] = anyStep(r, limit); list[k].op == some || list[k].op == all; {
				list[k] = anyStep(r, limit)
			}
		}
		want := answers(NewSpace(limit, limit/2), list, func(int) string { return "" })
		for room := 0; room <= limit; room++ {
			for _, when := range []func(int) string{
				func(int) string { return "" },
				func(int) string { return "y" },
				func(int) string { return "a" },
				func(k int) string { return []string{"", "y", "", "a", "ya", "yy", "ay"}[(k*k+room)%7] },
			} {
				is := answers(NewSpace(limit, room), list, when)
				for k := range is {
					if is[k] != want[k] {
						t.Fatalf("limit %d, room %d: %s: %v, want %v", limit, room, tell(list[:k+1]), is[k], want[k])
					}
				}
			}
		}
	}
}

func answers(s *Space, list []step, when func(int) string) []answer {
	var out []answer
	for k, x := range list {
		out = append(out, s.do(x))
		for _, c := range when(k) {
			s.Collect(c == all)
		}
	}
	return out
}
