package vm

import (
	"fmt"
	"math/rand"
	"reflect"
	"slices"
	"testing"

	"jvmcore/api"
	"jvmcore/pool"
)

// thingModel: of a class; references and words, as a plain program has them that never collects.
type thingModel struct {
	class string
	refs  []*thingModel
	words []uint64
	lock  lockModel
	runs  *threadModel // if it was started
}

// valueModel: what the verifier knows of it, and what it is: of is I, J, null, the name of a class, or nothing.
type valueModel struct {
	of    string
	bits  uint64
	thing *thingModel
}

func (v valueModel) isWide() bool { return v.of == "J" }

func (v valueModel) isReference() bool { return v.of != "" && v.of != "I" && v.of != "J" }

// model: main is written, and run, at once: there are no branches in it.
type model struct {
	*coder
	r       *rand.Rand
	stack   []valueModel
	locals  [8]valueModel
	inner   []*thingModel // what frames within main hold
	statics map[string]valueModel
	texts   map[string]*thingModel
	lives   []int // after each step
	lines   []string
	most    int // how many words were needed at the most when something was made
}

// live: the words of all that can be reached.
func (m *model) live() int {
	seen := map[*thingModel]bool{}
	left := slices.Clone(m.inner)
	for _, l := range [][]valueModel{m.stack, m.locals[:]} {
		for _, v := range l {
			left = append(left, v.thing)
		}
	}
	for _, v := range m.statics {
		left = append(left, v.thing)
	}
	for _, x := range m.texts {
		left = append(left, x)
	}
	n := 2
	for len(left) > 0 {
		x := left[len(left)-1]
		left = left[:len(left)-1]
		if x == nil || seen[x] {
			continue
		}
		seen[x] = true
		n += 2 + len(x.refs) + len(x.words)
		left = append(left, x.refs...)
	}
	return n
}

// steps: so many, in which nothing changes any more.
func (m *model) steps(n int) {
	x := m.live()
	for range n {
		m.lives = append(m.lives, x)
	}
}

func (m *model) make(class string, refs, words int) *thingModel {
	m.most = max(m.most, m.live()+2+refs+words)
	return &thingModel{class: class, refs: make([]*thingModel, refs), words: make([]uint64, words)}
}

func (m *model) push(l ...valueModel) { m.stack = append(m.stack, l...) }

func (m *model) pop() valueModel {
	v := m.stack[len(m.stack)-1]
	m.stack = m.stack[:len(m.stack)-1]
	return v
}

// top: the k-th from the top; an empty one, if there are fewer.
func (m *model) top(k int) valueModel {
	if k >= len(m.stack) {
		return valueModel{}
	}
	return m.stack[len(m.stack)-1-k]
}

func (m *model) text(units []uint16) *thingModel {
	x := m.make(stringName, 0, len(units))
	for k, u := range units {
		x.words[k] = uint64(u)
	}
	return x
}

func (x *thingModel) units() []uint16 {
	var l []uint16
	for _, w := range x.words {
		l = append(l, uint16(w))
	}
	return l
}

// fits: is a value that is known to be of a class (or none) one of the other, for the verifier?
func fits(of, other string) bool {
	a, b := valueModel{of: of}, valueModel{of: other}
	return of == other || a.isReference() && b.isReference() && (of == "null" || of == "B" && other == "A" || other == objectName)
}

// isOf: is the thing of a class?
func (x *thingModel) isOf(class string) bool {
	return x == nil || fits(x.class, class) || class == "[Ljava/lang/Object;" && (x.class == "[LA;" || x.class == "[[I")
}

// The fields of A, which B has too, and B's own: descriptors; what is among the references, and among the words.
var modelFields = []struct {
	name, of, class string
	ref             bool
	place           int
}{{"next", "LA;", "A", true, 0}, {"o", anyType, objectName, true, 1}, {"n", "I", "I", false, 0}, {"j", "J", "J", false, 1}, {"c", "C", "I", false, 2}, {"z", "Z", "I", false, 3}}

// modelClasses: A with these fields and static ones; B below it.
func modelClasses(t *testing.T) (*built, *built) {
	a := newBuilt(t, "A", objectName, open).maker()
	for _, f := range modelFields {
		a.field(0, f.name, f.of)
	}
	for _, s := range modelStatics {
		a.field(api.Static, s[0], s[1])
	}
	a.method(api.Static, "same", "("+anyType+")"+anyType, 1, 1, func(c *coder) { c.ops(42, 176) })
	a.method(api.Static, "drop", "("+anyType+"J)V", 1, 3, func(c *coder) { c.ops(1, 75, 177) })
	a.method(api.Public, "get", "()"+anyType, 1, 1, func(c *coder) { c.ops(42).member(180, "A", "o", anyType).ops(176) })
	b := newBuilt(t, "B", "A", open).maker().field(0, "own", anyType)
	b.method(api.Public, "get", "()"+anyType, 1, 1, func(c *coder) { c.ops(42, 176) })
	return a, b
}

var modelStatics = [][3]string{{"s", "LA;", "A"}, {"o2", anyType, objectName}, {"t", textType, stringName}, {"l", "J", "J"}, {"b", "B", "I"}}

// newThing: with dup and <init>, of A (7 steps) or B (10 steps and, the first time, 2 for the class).
func (m *model) newThing() bool {
	class, refs, inits := "A", 2, 6
	if m.r.Intn(2) == 0 {
		class, refs, inits = "B", 3, 9
		if _, had := m.statics["B is there"]; !had {
			m.statics["B is there"] = valueModel{}
			m.steps(2)
		}
	}
	m.made(class)
	m.push(valueModel{of: class, thing: m.make(class, refs, 4)})
	m.steps(inits + 1)
	return true
}

func (m *model) constant() bool {
	switch m.r.Intn(4) {
	case 0:
		x := m.r.Intn(100) - 50
		m.coder.int(x)
		m.push(valueModel{of: "I", bits: uint64(uint32(x))})
	case 1:
		x := m.r.Int63()
		m.coder.long(x)
		m.push(valueModel{of: "J", bits: uint64(x)})
	case 2:
		m.ops(1)
		m.push(valueModel{of: "null"})
	default:
		s := []string{"", "a", "ab", "b\xc0\x80\xe2\x82\xac", "aab"}[m.r.Intn(5)]
		m.str(s)
		if m.texts[s] == nil {
			units, _ := pool.Units(s)
			m.texts[s] = m.text(units)
		}
		m.push(valueModel{of: stringName, thing: m.texts[s]})
	}
	m.steps(1)
	return true
}

func (m *model) newArray() bool {
	n := m.r.Intn(5)
	m.coder.int(n)
	m.push(valueModel{of: "I", bits: uint64(n)})
	m.steps(1)
	m.pop()
	var x *thingModel
	switch m.r.Intn(4) {
	case 0:
		m.ops(188, 10)
		x = m.make("[I", 0, n)
	case 1:
		m.with(189, m.class(objectName))
		x = m.make("[Ljava/lang/Object;", n, 0)
	case 2:
		m.with(189, m.class("A"))
		x = m.make("[LA;", n, 0)
	default:
		inner := m.r.Intn(3)
		m.coder.int(inner)
		m.push(valueModel{of: "I"}, valueModel{of: "I"})
		m.steps(1)
		m.stack = m.stack[:len(m.stack)-2]
		m.with(197, m.class("[[I")).ops(2)
		x = m.make("[[I", n, 0)
		m.inner = append(m.inner, x)
		for k := range n {
			x.refs[k] = m.make("[I", 0, inner)
		}
		m.inner = nil
	}
	m.push(valueModel{of: x.class, thing: x})
	m.steps(1)
	return true
}

// store, load: of a local.
func (m *model) store() bool {
	v := m.top(0)
	k := m.r.Intn(7)
	switch {
	case v.of == "I":
		m.ops(54, byte(k))
	case v.of == "J":
		m.ops(55, byte(k))
	case v.isReference():
		m.ops(58, byte(k))
	default:
		return false
	}
	m.pop()
	if k > 0 && m.locals[k-1].isWide() {
		m.locals[k-1] = valueModel{}
	}
	m.locals[k] = v
	if v.isWide() {
		m.locals[k+1] = valueModel{}
	}
	m.steps(1)
	return true
}

func (m *model) load() bool {
	k := m.r.Intn(8)
	v := m.locals[k]
	switch {
	case v.of == "I":
		m.ops(21, byte(k))
	case v.of == "J":
		m.ops(22, byte(k))
	case v.isReference():
		m.ops(25, byte(k))
	default:
		return false
	}
	m.push(v)
	m.steps(1)
	return true
}

// shift: some of 87 to 95.
func (m *model) shift() bool {
	a, b := m.top(0), m.top(1)
	one := a.of != "" && !a.isWide()
	both := one && b.of != "" && !b.isWide()
	switch op := []byte{87, 87, 87, 88, 88, 88, 89, 90, 92, 95}[m.r.Intn(10)]; {
	case op == 87 && one:
		m.ops(op)
		m.pop()
	case op == 88 && (a.isWide() || both):
		m.ops(op)
		if m.pop(); both {
			m.pop()
		}
	case op == 89 && one:
		m.ops(op)
		m.push(a)
	case op == 90 && both:
		m.ops(op)
		m.stack = m.stack[:len(m.stack)-2]
		m.push(a, b, a)
	case op == 92 && (a.isWide() || both):
		m.ops(op)
		if both {
			m.push(b)
		}
		m.push(a)
	case op == 95 && both:
		m.ops(op)
		m.stack = m.stack[:len(m.stack)-2]
		m.push(a, b)
	default:
		return false
	}
	m.steps(1)
	return true
}

func (m *model) static() bool {
	s := modelStatics[m.r.Intn(len(modelStatics))]
	if v := m.top(0); fits(v.of, s[2]) && m.r.Intn(2) == 0 {
		m.member(179, "A", s[0], s[1])
		m.pop()
		v.of = s[2]
		v.bits = narrow(s[1], v.bits)
		m.statics[s[0]] = v
	} else {
		m.member(178, "A", s[0], s[1])
		v := m.statics[s[0]]
		v.of = s[2]
		m.push(v)
	}
	m.steps(1)
	return true
}

func (m *model) getField() bool {
	f := modelFields[m.r.Intn(len(modelFields))]
	v := m.top(0)
	if !fits(v.of, "A") || v.thing == nil {
		return false
	}
	m.member(180, "A", f.name, f.of)
	m.pop()
	if f.ref {
		m.push(valueModel{of: f.class, thing: v.thing.refs[f.place]})
	} else {
		m.push(valueModel{of: f.class, bits: v.thing.words[f.place]})
	}
	m.steps(1)
	return true
}

func (m *model) putField() bool {
	f := modelFields[m.r.Intn(len(modelFields))]
	v, to := m.top(0), m.top(1)
	if !fits(to.of, "A") || to.thing == nil || !fits(v.of, f.class) {
		return false
	}
	m.member(181, "A", f.name, f.of)
	m.stack = m.stack[:len(m.stack)-2]
	if f.ref {
		to.thing.refs[f.place] = v.thing
	} else {
		to.thing.words[f.place] = narrow(f.of, v.bits)
	}
	m.steps(1)
	return true
}

// element: of the array at the top, one is put or got.
func (m *model) element() bool {
	v := m.top(0)
	if v.thing == nil || v.of[0] != '[' || len(v.thing.refs)+len(v.thing.words) == 0 {
		return false
	}
	if v.of == "[I" {
		k := m.r.Intn(len(v.thing.words))
		m.coder.int(k).ops(46)
		m.steps(1)
		m.pop()
		m.push(valueModel{of: "I", bits: v.thing.words[k]})
		m.steps(1)
		return true
	}
	k := m.r.Intn(len(v.thing.refs))
	elements := map[string]string{"[LA;": "A", "[[I": "[I", "[Ljava/lang/Object;": objectName}
	of, below := elements[v.of], m.top(1)
	if below.isReference() && below.thing.isOf(elements[v.thing.class]) && m.r.Intn(3) > 0 {
		m.ops(95).int(k).ops(95, 83) // array, index, thing
		m.steps(3)
		m.stack = m.stack[:len(m.stack)-2]
		v.thing.refs[k] = below.thing
	} else {
		m.coder.int(k).ops(50)
		m.steps(1)
		m.pop()
		m.push(valueModel{of: of, thing: v.thing.refs[k]})
	}
	m.steps(1)
	return true
}

func (m *model) ofTexts() bool {
	a, b := m.top(1), m.top(0)
	if b.of != stringName || b.thing == nil {
		return false
	}
	switch k := m.r.Intn(3); {
	case k == 0:
		m.ofText("length")
		m.pop()
		m.push(valueModel{of: "I", bits: uint64(len(b.thing.words))})
	case k == 1 && len(b.thing.words) < 100:
		m.ofText("intern")
		m.pop()
		key := pool.Text(b.thing.units())
		if m.texts[key] == nil {
			m.texts[key] = b.thing
		}
		m.push(valueModel{of: stringName, thing: m.texts[key]})
	case k == 2 && a.of == stringName && a.thing != nil && len(a.thing.words)+len(b.thing.words) < 50:
		m.ofText("concat")
		x := m.text(slices.Concat(a.thing.units(), b.thing.units()))
		m.stack = m.stack[:len(m.stack)-2]
		m.push(valueModel{of: stringName, thing: x})
	default:
		return false
	}
	m.steps(1)
	return true
}

func (m *model) equals() bool {
	a, b := m.top(1), m.top(0)
	if a.of != stringName || a.thing == nil || !b.isReference() {
		return false
	}
	m.ofText("equals")
	m.stack = m.stack[:len(m.stack)-2]
	is := b.thing != nil && b.thing.class == stringName && slices.Equal(a.thing.words, b.thing.words)
	m.push(valueModel{of: "I", bits: map[bool]uint64{true: 1}[is]})
	m.steps(1)
	return true
}

func (m *model) callOne() bool {
	v := m.top(0)
	if !v.isReference() {
		return false
	}
	switch m.r.Intn(3) {
	case 0: // same: call, load, give
		m.coder.static("A", "same", "("+anyType+")"+anyType)
		m.steps(3)
		m.pop()
		m.push(valueModel{of: objectName, thing: v.thing})
	case 1: // drop: call, none, store, return
		m.coder.long(1).static("A", "drop", "("+anyType+"J)V")
		m.steps(3) // the constant too
		m.pop()
		m.steps(2)
		return true
	default:
		if !fits(v.of, "A") || v.thing == nil {
			return false
		}
		m.virtual("A", "get", "()"+anyType)
		x := valueModel{of: objectName, thing: v.thing}
		m.steps(2) // call, load
		if v.thing.class == "A" {
			m.steps(1) // field: its thing is in a local yet
			x.thing = v.thing.refs[1]
		}
		m.pop()
		m.push(x)
		m.steps(1) // give
	}
	return true
}

func (m *model) printTop() bool {
	v := m.top(0)
	switch v.of {
	case "I":
		m.print("I")
		m.lines = append(m.lines, fmt.Sprint(int32(v.bits)))
	case "J":
		m.print("J")
		m.lines = append(m.lines, fmt.Sprint(int64(v.bits)))
	case stringName, "null":
		m.printText()
		line := "null"
		if v.thing != nil {
			line = "'" + pool.Text(v.thing.units())
		}
		m.lines = append(m.lines, line)
	default:
		return false
	}
	m.pop()
	m.steps(1)
	return true
}

// cast: 192 to a class that it is of, 193 to any.
func (m *model) cast() bool {
	v := m.top(0)
	class := []string{"A", "B", stringName, "[LA;", "[[I", "[I", "[Ljava/lang/Object;", objectName}[m.r.Intn(8)]
	if !v.isReference() {
		return false
	}
	if v.thing.isOf(class) && m.r.Intn(4) > 0 {
		m.with(192, m.class(class))
		m.pop()
		m.push(valueModel{of: class, thing: v.thing})
	} else {
		m.with(193, m.class(class))
		m.pop()
		m.push(valueModel{of: "I", bits: map[bool]uint64{true: 1}[v.thing != nil && v.thing.isOf(class)]})
	}
	m.steps(1)
	return true
}

func (m *model) length() bool {
	v := m.top(0)
	if v.thing == nil || v.of[0] != '[' {
		return false
	}
	m.ops(190)
	m.pop()
	m.push(valueModel{of: "I", bits: uint64(len(v.thing.refs) + len(v.thing.words))})
	m.steps(1)
	return true
}

// height: the slots of the stack.
func (m *model) height() int {
	n := len(m.stack)
	for _, v := range m.stack {
		if v.isWide() {
			n++
		}
	}
	return n
}

// write: a main of so many actions.
func (m *model) write(actions int) {
	m.steps(2) // behind Start, and behind the step for the class
	all := []func() bool{m.newThing, m.newThing, m.newArray, m.newArray, m.constant, m.constant, m.store, m.store, m.load, m.load, m.shift, m.shift, m.static, m.getField, m.putField, m.putField, m.putField, m.element, m.element, m.element, m.ofTexts, m.ofTexts, m.equals, m.callOne, m.printTop, m.cast, m.length}
	for k := 0; k < actions; {
		if m.height() > 16 {
			for !m.printTop() && !m.store() {
			}
		}
		if all[m.r.Intn(len(all))]() {
			k++
		}
	}
	m.ops(177)
	m.stack, m.locals = nil, [8]valueModel{}
	m.steps(1)
}

func wantLives(t *testing.T, what string, got, want []int) {
	t.Helper()
	for k := range min(len(got), len(want)) {
		if got[k] != want[k] {
			t.Fatalf("%s: behind %d steps: words %v, want %v", what, k, got[:k+1], want[:k+1])
		}
	}
	if len(got) != len(want) {
		t.Fatalf("%s: %d steps, want %d", what, len(got)-1, len(want)-1)
	}
}

func TestModel(t *testing.T) {
	for seed := range int64(150) {
		a, b := modelClasses(t)
		m := &model{r: rand.New(rand.NewSource(seed)), statics: map[string]valueModel{}, texts: map[string]*thingModel{}}
		a.main(24, 8, func(c *coder) {
			m.coder = c
			m.write(150)
		})
		limit := max(100, m.most)
		for turn, o := range []Options{{10000, 20, 20}, {limit, 20, 5}, {limit, limit, 5}, {limit + m.r.Intn(50), 20 + m.r.Intn(80), 5}} {
			v := started(t, o, a, b)
			if turn%2 == 0 {
				wantLives(t, fmt.Sprint("seed ", seed, ", ", o), lives(v), m.lives)
			}
			for every := m.r.Intn(20); v.Run(0, 1+m.r.Intn(1+every)) > 0; {
				v.Collect(m.r.Intn(every+2) == 0)
			}
			ends(t, v)
			if !reflect.DeepEqual(v.Out(), m.lines) && len(m.lines) > 0 {
				t.Fatalf("seed %d, %v: printed %q, want %q", seed, o, v.Out(), m.lines)
			}
		}
		v := started(t, Options{max(100, m.most-1), 20, 20}, a, b)
		if n := v.Run(0, 1<<30); m.most > 100 && n == len(m.lives)-1 {
			t.Fatalf("seed %d: there was room for %d words", seed, m.most)
		}
	}
}
