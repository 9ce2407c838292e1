package verify

import (
	"math/rand"
	"slices"
	"strings"
	"testing"

	"jvmcore/api"
	"jvmcore/code"
	"jvmcore/link"
)

// writer: writes code that is right for the most part, by the model.
type writer struct {
	*rand.Rand
	*routine
	c       *mcode
	state   mstate
	comes   bool
	made    []int // places of 187
	places  map[int]api.Frame
	pending []pending
}

// pending: a branch whose target is not known yet: where the branch stands, where its two bytes, the state with which it goes on.
type pending struct {
	at, patch int
	state     mstate
}

var someClasses = []string{"A", "B", "C", "T", "I", "J", "E", "None", "Ring", "Orphan", "[I", "[LA;", "[LB;", "[[I", "[LI;", stringName, throwableName, "java/lang/Error", cloneableName, objectName}

func pick[T any](r *rand.Rand, l []T) T { return l[r.Intn(len(l))] }

// kind: any type.
func (w *writer) kind() api.VType {
	switch k := w.Intn(12); {
	case k < 6:
		return types(topT, intT, floatT, longT, doubleT, nullT)[k]
	case k == 6:
		return thisT
	case k == 7 && len(w.made) > 0:
		return fresh(pick(w.Rand, w.made))
	}
	return obj(pick(w.Rand, someClasses))
}

// newWriter: of a class with one method.
func newWriter(t *testing.T, r *rand.Rand, w *link.World, l []*built) *writer {
	b := newBuilt(t, "T", pick(r, []string{"A", "B", objectName}), open).field(0, "x", "I").field(0, "y", "LT;").field(api.Static, "s", "J")
	takes := pick(r, []string{"", "I", "J", "ILA;", "DI", "[I", "LB;J", "[LA;I", "LE;", "LNone;F"})
	gives := pick(r, []string{"V", "V", "I", "J", "F", "D", "LA;", "[I", "LI;"})
	flags, name := uint16(0), "m"
	switch r.Intn(3) {
	case 0:
		flags = api.Static
	case 1:
		name, gives = initName, "V"
	}
	of := "(" + takes + ")" + gives
	m := b.routine(flags, name, of, 2+r.Intn(5), 0)
	list, _ := mcut(of)
	for _, x := range list {
		m.takes(described(x))
	}
	m.Code.MaxLocals = width(m.first) + r.Intn(5)
	c := &mcode{model: newModel(w, append(l, b)...), Method: m.Method, this: "T", super: b.super, name: name, gives: gives, frames: map[int]mstate{}}
	c.file = b.Class
	x := &writer{Rand: r, routine: m, c: c, comes: true, places: map[int]api.Frame{}}
	x.state = mstate{slotTypes(m.Code.MaxLocals, m.first...), nil, name == initName}
	return x
}

// framed: a state as a frame tells it.
func framed(at int, s mstate) api.Frame {
	f := api.Frame{At: at, Stack: slices.Clone(s.stack)}
	for k := 0; k < len(s.locals); k++ {
		f.Locals = append(f.Locals, s.locals[k])
		if width(s.locals[k:k+1]) == 2 {
			k++
		}
	}
	for len(f.Locals) > 0 && f.Locals[len(f.Locals)-1] == topT {
		f.Locals = f.Locals[:len(f.Locals)-1]
	}
	return f
}

// place: a frame here, of which the state is that of the code from here on.
func (w *writer) place(s mstate) {
	at := len(w.Code.Bytes)
	w.places[at] = framed(at, s)
	w.state = s.copied()
	w.state.half = slices.Contains(s.locals, thisT)
	w.c.frames[at] = w.state.copied()
	w.comes = true
}

// less: a state that another fits.
func (w *writer) less(s mstate) mstate {
	s = s.copied()
	for k, t := range s.locals {
		if t != thisT && w.Intn(4) == 0 {
			s.locals[k] = topT
		} else if t.Tag == api.Object && w.Intn(4) == 0 {
			s.locals[k] = anyT
		}
	}
	return s
}

// arrive: perhaps a frame comes here, with branches that lead to it.
func (w *writer) arrive() {
	switch {
	case !w.comes && len(w.pending) > 0:
		p := pick(w.Rand, w.pending)
		w.land(p)
		w.place(w.less(p.state))
	case !w.comes:
		s := mstate{locals: slotTypes(w.Code.MaxLocals)}
		if w.isInit() {
			s.locals[0] = pick(w.Rand, types(thisT, obj("T")))
		}
		w.place(s)
	case w.Intn(6) == 0:
		s := w.less(w.state)
		for _, p := range w.pending {
			if w.fits(p.state, s) {
				w.land(p)
			}
		}
		w.place(s)
	}
}

func (w *writer) isInit() bool { return w.c.name == initName }

func (w *writer) fits(one, other mstate) bool {
	w.c.frames[-1] = other
	return w.c.goOn(-1, one) == yes
}

// land: a branch leads here.
func (w *writer) land(p pending) {
	w.pending = slices.DeleteFunc(w.pending, func(x pending) bool { return x.at == p.at })
	to := len(w.Code.Bytes) - p.at
	s := []byte(w.Code.Bytes)
	s[p.patch], s[p.patch+1] = byte(to>>8), byte(to)
	w.Code.Bytes = string(s)
}

// write: so many instructions, and an end.
func (w *writer) write(n int) {
	for range n {
		w.arrive()
		w.next()
	}
	for w.comes || len(w.pending) > 0 {
		if !w.comes {
			w.arrive()
		}
		w.end()
	}
}

// end: nothing is left on the stack, and something is thrown.
func (w *writer) end() {
	for _, t := range slices.Backward(w.state.stack) {
		w.append(ops(86 + byte(width(types(t)))))
	}
	w.append(ops(1, 191))
	w.comes = false
}

func (w *writer) append(s string) { w.Code.Bytes += s }

// next: one that is right, if one is found soon.
func (w *writer) next() {
	at := len(w.Code.Bytes)
	for range 12 {
		s, branch := w.candidate(at)
		i, size := decodeOne(s, at)
		if e, _ := code.Check([]api.Ins{i}, w.Pool, w.Code.MaxLocals); size == 0 || e != yes {
			continue
		}
		w.c.file, w.c.Method.Code = w.built.Class, w.Code
		w.c.list = append(w.c.list, i)
		after, e := w.c.step(w.state.copied(), i)
		if e != yes && w.Intn(2000) > 0 {
			w.c.list = w.c.list[:len(w.c.list)-1]
			continue
		}
		if e == yes {
			w.state = after
		}
		w.append(s)
		if branch {
			w.aim(i)
		}
		if i.Op == 187 {
			w.made = append(w.made, at)
		}
		w.comes = !slices.Contains([]uint8{167, 172, 173, 174, 175, 176, 177, 191, 200}, i.Op)
		return
	}
	w.append(ops(0))
	w.c.list = append(w.c.list, api.Ins{At: at})
}

// aim: the branch that was written last goes back to a frame that fits, or onward.
func (w *writer) aim(i api.Ins) {
	var l []int
	for at := range w.places {
		if w.c.goOn(at, w.state) == yes || w.Intn(40) == 0 {
			l = append(l, at)
		}
	}
	slices.Sort(l)
	patch := len(w.Code.Bytes) - 2
	if len(l) == 0 || w.Intn(2) == 0 {
		w.pending = append(w.pending, pending{i.At, patch, w.state.copied()})
		return
	}
	to := pick(w.Rand, l) - i.At
	s := []byte(w.Code.Bytes)
	s[patch], s[patch+1] = byte(to>>8), byte(to)
	if i.Op == 200 && to < 0 {
		s[patch-1], s[patch-2] = 255, 255
	}
	w.Code.Bytes = string(s)
}

// decodeOne: of bytes; targets are of no matter.
func decodeOne(s string, at int) (api.Ins, int) {
	l, e, _ := code.Decode(s)
	if e != yes || len(l) != 1 {
		return api.Ins{}, 0
	}
	i := l[0]
	i.At, i.Targets = at, nil
	return i, len(s)
}

// candidate: any instruction, and whether it is a branch.
func (w *writer) candidate(at int) (string, bool) {
	local := byte(w.Intn(w.Code.MaxLocals + 1))
	class := func() uint16 { return w.class(pick(w.Rand, someClasses)) }
	of := func() string {
		return pick(w.Rand, strings.Fields("I J F D Z LA; LB; LT; LI; LNone; [I [LA; Ljava/lang/Object;"))
	}
	switch k := w.Intn(20); {
	case k < 3:
		return ops(byte(w.Intn(16))), false
	case k < 5:
		return ops(byte(21+w.Intn(5)), local), false
	case k < 7:
		return ops(byte(54+w.Intn(5)), local), false
	case k < 8:
		return ops(byte(26 + w.Intn(20))), false
	case k < 10:
		return ops(byte(46 + w.Intn(8) + 33*w.Intn(2))), false
	case k < 12:
		return ops(byte(87 + w.Intn(9))), false
	case k < 14:
		return ops(byte(96 + w.Intn(57))), false
	case k < 15:
		return pick(w.Rand, []string{ops(190), ops(191), ops(194), ops(195), ops(byte(172 + w.Intn(6))), ops(132, local, 1), ops(16, 5), ops(17, 5, 5), ops(18, byte(w.constant(api.Const{Tag: api.Integer, Bits: 5}))), with(20, w.constant(api.Const{Tag: api.Double, Bits: 5}))}), false
	case k < 16:
		op := byte(153 + w.Intn(15))
		if w.Intn(4) == 0 {
			op = byte(198 + w.Intn(3))
		}
		if op == 200 {
			return ops(op, 0, 0, 0, 0), true
		}
		return ops(op, 0, 0), true
	case k < 18:
		return w.thingCandidate(class), false
	}
	name := pick(w.Rand, someClasses)
	switch op := byte(178 + w.Intn(8)); {
	case op < 182:
		return with(op, w.ref(api.FieldRef, pick(w.Rand, []string{"T", "A", name}), pick(w.Rand, []string{"x", "y", "z"}), of())), false
	case op == 183:
		if w.Intn(3) > 0 {
			return with(op, w.ref(api.MethodRef, pick(w.Rand, []string{"T", "A", "B", name}), initName, pick(w.Rand, []string{"()V", "(I)V", "(LA;)V"}))), false
		}
		return with(op, w.ref(api.MethodRef, pick(w.Rand, []string{"T", "A", objectName, name}), "f", "("+of()+")V")), false
	case op == 185:
		x := of()
		return with(op, w.ref(api.InterfaceRef, name, "f", "("+x+")"+of())) + ops(byte(1+width(types(described(x)))), 0), false
	default:
		return with(op, w.ref(api.MethodRef, name, "f", pick(w.Rand, []string{"()", "(" + of() + ")", "(" + of() + of() + ")"})+pick(w.Rand, []string{"V", of()}))), false
	}
}

func (w *writer) thingCandidate(class func() uint16) string {
	switch w.Intn(6) {
	case 0, 1:
		return with(187, w.class(pick(w.Rand, []string{"A", "B", "T", "E", "None"})))
	case 2:
		return ops(188, byte(4+w.Intn(8)))
	case 3:
		return with(189, class())
	case 4:
		return with(byte(192+w.Intn(2)), class())
	}
	return with(197, w.class(pick(w.Rand, []string{"[[I", "[[LA;", "[[[LNone;"}))) + ops(byte(1+w.Intn(2)))
}

// spoil: something is made another, perhaps.
func (w *writer) spoil() {
	at := pick(w.Rand, append(w.sortedPlaces(), 0))
	f := w.places[at]
	switch w.Intn(12) {
	case 0:
		w.Code.MaxStack = max(0, w.Code.MaxStack-1)
	case 1:
		delete(w.places, at)
	case 2:
		f.At, f.Stack = at, append(slices.Clone(f.Stack), w.kind())
		w.places[at] = f
	case 3, 4:
		if len(f.Locals) > 0 {
			f.Locals = replaced(f.Locals, w.Intn(len(f.Locals)), w.kind())
			w.places[at] = f
		}
	case 5:
		s := []byte(w.Code.Bytes)
		s[w.Intn(len(s))] = byte(w.Intn(201))
		w.Code.Bytes = string(s)
	case 6:
		at = w.Intn(len(w.Code.Bytes) + 1)
		w.places[at] = inLocals(at, w.kind())
	}
}

func (w *writer) sortedPlaces() []int {
	var l []int
	for at := range w.places {
		l = append(l, at)
	}
	slices.Sort(l)
	return l
}

// guard: perhaps handlers, whose code stands behind all other.
func (w *writer) guard() {
	starts := []int{}
	l, _, _ := code.Decode(w.Code.Bytes)
	for _, i := range l {
		starts = append(starts, i.At)
	}
	for range max(0, w.Intn(6)-3) {
		if len(starts) < 3 {
			return
		}
		from := pick(w.Rand, starts[:len(starts)-1])
		to := pick(w.Rand, starts)
		if to <= from {
			continue
		}
		name := pick(w.Rand, []string{"", "", "E", "E", "java/lang/Error", "java/lang/Error", throwableName, pick(w.Rand, someClasses)})
		at := len(w.Code.Bytes)
		w.catch(from, to, at, name)
		f := onStack(at, obj(pick(w.Rand, []string{throwableName, objectName, "I", pick(w.Rand, someClasses)})))
		if w.Intn(2) > 0 && len(w.first) > 0 {
			f.Locals = w.first[:1+w.Intn(len(w.first))]
		}
		w.places[at] = f
		w.append(ops(1, 191))
	}
}

func (w *writer) finish() {
	w.guard()
	if w.Intn(2) == 0 {
		w.spoil()
	}
	var l []api.Frame
	for _, at := range w.sortedPlaces() {
		l = append(l, w.places[at])
	}
	w.frames(l...)
}

// Code that is right for the most part, and each thing that may be wrong with it: the model tells the same.
func TestAgainstModel(t *testing.T) {
	r := rand.New(rand.NewSource(7))
	told := map[api.Errno]int{}
	for n := range 2500 {
		near := neighbours(t)
		world := worldOf(t, near...)
		w := newWriter(t, r, world, near)
		w.write(3 + r.Intn(40))
		w.finish()
		s := w.bytes()
		if _, e := world.Define(s); e != api.OK {
			continue
		}
		file, _ := world.File("T")
		other := worldOf(t, near...)
		if _, e := other.Define(s); e != api.OK {
			t.Fatalf("%d: Define in another world: %d", n, e)
		}
		e, at := newModel(other, append(near, w.built)...).verify(file, 0)
		want := verdict{e, 0, at}
		if v := verdictOn(world, "T"); v != want {
			t.Fatalf("%d: %v, the model tells %v\ncode %x\nframes %v\nhandlers %v\nof %s, %d, %d", n, v, want, w.Code.Bytes, w.places, w.Code.Handlers, file.Pool[file.Methods[0].Type].Text, w.Code.MaxStack, w.Code.MaxLocals)
		}
		told[e]++
	}
	if told[api.OK] < 500 || told[api.ErrVerify] < 300 || told[api.ErrMap] < 20 || told[api.ErrNoClass] < 10 || told[api.ErrCircle] < 2 {
		t.Errorf("too few of some: %v", told)
	}
}
