package link

import (
	"fmt"
	"math/rand"
	"slices"
	"strings"
	"testing"

	"jvmcore/api"
	"jvmcore/desc"
)

// model: a world that does just what the document says, sentence by sentence, with functions that call themselves.
type model struct {
	classes map[string]*built
	kept    map[string]api.Errno
	looking map[string]bool
}

func newModel() *model {
	m := &model{map[string]*built{}, map[string]api.Errno{}, map[string]bool{}}
	for _, c := range earlyClasses() {
		b := newBuilt(c.name, c.super, c.flags, c.faces...)
		b.methods = c.members()
		m.classes[c.name] = b
	}
	m.kept[object] = api.OK
	return m
}

// element: what is in an array at last.
func element(name string) string {
	if name == "" || name[0] != '[' || !desc.Class(name) {
		return name
	}
	name = strings.TrimLeft(name, "[")
	if name[0] == 'L' {
		return name[1 : len(name)-1]
	}
	return name
}

func ofValues(name string) bool {
	return desc.Class(name) && name[0] == '[' && !strings.HasSuffix(name, ";")
}

func array(name string) bool { return desc.Class(name) && name[0] == '[' }

func pack(name string) string {
	parts := strings.Split(element(name), "/")
	return strings.Join(parts[:len(parts)-1], "/")
}

func (m *model) Load(name string) api.Errno {
	if ofValues(name) {
		return api.OK
	}
	name = element(name)
	c := m.classes[name]
	if c == nil {
		return api.ErrNoClass
	}
	if e, had := m.kept[name]; had {
		return e
	}
	if m.looking[name] {
		return api.ErrCircle
	}
	m.looking[name] = true
	e := m.look(c)
	delete(m.looking, name)
	m.kept[name] = e
	return e
}

func (m *model) look(c *built) api.Errno {
	if e := m.Load(c.super); e != api.OK {
		return e
	}
	if m.classes[c.super].Flags&(api.Interface|api.Final) != 0 {
		return api.ErrChange
	}
	if !m.seen(c.name, c.super) {
		return api.ErrAccess
	}
	for _, f := range c.faces {
		if e := m.Load(f); e != api.OK {
			return e
		}
		if m.classes[f].Flags&api.Interface == 0 {
			return api.ErrChange
		}
		if !m.seen(c.name, f) {
			return api.ErrAccess
		}
	}
	return api.OK
}

func (m *model) seen(from, name string) bool {
	if ofValues(name) {
		return true
	}
	c := m.classes[element(name)]
	return c == nil || c.Flags&api.Public != 0 || pack(from) == pack(name)
}

func (m *model) Under(a, b string) (bool, api.Errno) {
	if e := m.Load(a); e != api.OK {
		return false, e
	}
	if e := m.Load(b); e != api.OK {
		return false, e
	}
	return m.is(a, b), api.OK
}

func (m *model) is(a, b string) bool {
	if a == b || b == object {
		return true
	}
	if !array(a) {
		c := m.classes[a]
		return c.super != "" && m.is(c.super, b) || slices.ContainsFunc(c.faces, func(f string) bool { return m.is(f, b) })
	}
	if b == "java/lang/Cloneable" || b == "java/io/Serializable" {
		return true
	}
	if !array(b) {
		return false
	}
	inA, inB := a[1:], b[1:]
	if len(inA) == 1 || len(inB) == 1 { // values
		return inA == inB
	}
	return m.is(ofDescriptor(inA), ofDescriptor(inB))
}

// ofDescriptor: the name of a class or of an array.
func ofDescriptor(s string) string {
	if s[0] == 'L' {
		return s[1 : len(s)-1]
	}
	return s
}

func (m *model) used(from string, x api.Member) bool {
	if x.Flags&api.Public != 0 || from == x.Class {
		return true
	}
	if x.Flags&api.Private != 0 {
		return false
	}
	if pack(from) == pack(x.Class) {
		return true
	}
	if x.Flags&api.Protected == 0 || m.Load(from) != api.OK || array(from) {
		return false
	}
	return m.is(from, x.Class)
}

func own(l []api.Member, name, of string) *api.Member {
	for k := range l {
		if l[k].Name == name && l[k].Type == of {
			return &l[k]
		}
	}
	return nil
}

func (m *model) find(from, class string) (*built, api.Errno) {
	if e := m.Load(class); e != api.OK {
		return nil, e
	}
	if !m.seen(from, class) {
		return nil, api.ErrAccess
	}
	if array(class) {
		class = object
	}
	return m.classes[class], api.OK
}

func (m *model) fieldOf(c *built, name, of string) *api.Member {
	if c == nil {
		return nil
	}
	if x := own(c.fields, name, of); x != nil {
		return x
	}
	for _, f := range c.faces {
		if x := m.fieldOf(m.classes[f], name, of); x != nil {
			return x
		}
	}
	return m.fieldOf(m.classes[c.super], name, of)
}

func (m *model) Field(from, class, name, of string) (api.Member, api.Errno) {
	c, e := m.find(from, class)
	if e != api.OK {
		return api.Member{}, e
	}
	x := m.fieldOf(c, name, of)
	if x == nil {
		return api.Member{}, api.ErrNoField
	}
	if !m.used(from, *x) {
		return api.Member{}, api.ErrAccess
	}
	return *x, api.OK
}

// faceMethod: of an interface its own, then those of its interfaces, in order.
func (m *model) faceMethod(c *built, name, of string) *api.Member {
	if x := own(c.methods, name, of); x != nil {
		return x
	}
	return m.facesMethod(c, name, of)
}

func (m *model) facesMethod(c *built, name, of string) *api.Member {
	for _, f := range c.faces {
		if x := m.faceMethod(m.classes[f], name, of); x != nil {
			return x
		}
	}
	return nil
}

func (m *model) methodOf(c *built, name, of string, face bool) *api.Member {
	if face {
		if x := m.faceMethod(c, name, of); x != nil || name == "<init>" {
			return x
		}
		return own(m.classes[object].methods, name, of)
	}
	if name == "<init>" {
		return own(c.methods, name, of)
	}
	for k := c; k != nil; k = m.classes[k.super] {
		if x := own(k.methods, name, of); x != nil {
			return x
		}
	}
	for k := c; k != nil; k = m.classes[k.super] {
		if x := m.facesMethod(k, name, of); x != nil {
			return x
		}
	}
	return nil
}

func (m *model) Method(from, class, name, of string, face bool) (api.Member, api.Errno) {
	c, e := m.find(from, class)
	if e != api.OK {
		return api.Member{}, e
	}
	if (c.Flags&api.Interface != 0) != face {
		return api.Member{}, api.ErrChange
	}
	x := m.methodOf(c, name, of, face)
	if x == nil {
		return api.Member{}, api.ErrNoMethod
	}
	if x.Flags&api.Abstract != 0 && c.Flags&api.Abstract == 0 {
		return api.Member{}, api.ErrAbstract
	}
	if !m.used(from, *x) {
		return api.Member{}, api.ErrAccess
	}
	return *x, api.OK
}

func (m *model) Call(from, class, name, of string, face bool, thing string) (api.Member, api.Errno) {
	x, e := m.Method(from, class, name, of, face)
	if e != api.OK {
		return api.Member{}, e
	}
	is, e := m.Under(thing, class)
	if e != api.OK {
		return api.Member{}, e
	}
	if !is || x.Flags&api.Static != 0 {
		return api.Member{}, api.ErrChange
	}
	if x.Flags&api.Private != 0 {
		return x, api.OK
	}
	if array(thing) {
		thing = object
	}
	var y *api.Member
	for k := m.classes[thing]; k != nil && y == nil; k = m.classes[k.super] {
		z := own(k.methods, name, of)
		if z == nil || z.Flags&api.Static != 0 || z.Flags&api.Private != 0 {
			continue
		}
		if z.Class == x.Class || x.Flags&api.Public != 0 || x.Flags&api.Protected != 0 || pack(z.Class) == pack(x.Class) {
			y = z
		}
	}
	if y == nil || y.Flags&api.Abstract != 0 {
		return api.Member{}, api.ErrAbstract
	}
	if m.classes[x.Class].Flags&api.Interface != 0 && y.Flags&api.Public == 0 {
		return api.Member{}, api.ErrAccess
	}
	return *y, api.OK
}

func (m *model) fieldsOf(c *built) []api.Member {
	if c == nil {
		return nil
	}
	l := m.fieldsOf(m.classes[c.super])
	for _, f := range c.fields {
		if f.Flags&api.Static == 0 {
			l = append(l, f)
		}
	}
	return l
}

func (m *model) Layout(class string) ([]api.Member, api.Errno) {
	if e := m.Load(class); e != api.OK {
		return nil, e
	}
	if array(class) {
		return nil, api.ErrChange
	}
	return m.fieldsOf(m.classes[class]), api.OK
}

// chance: what is asked, by a fixed seed.
type chance struct {
	*rand.Rand
}

func (r chance) one(l ...string) string { return l[r.Intn(len(l))] }

// class: few names, so that they meet often.
func (r chance) class() string {
	if r.Intn(4) == 0 {
		return r.one(object, object, "java/lang/Thread", "java/lang/String", "java/lang/Error", "java/lang/Throwable")
	}
	return r.one("A", "B", "C", "p/A", "p/B", "p/C", "q/A", "q/B", "q/C")
}

func (r chance) face() string {
	if r.Intn(8) == 0 {
		return r.one(cloneable, serializable)
	}
	return r.one("I", "J", "p/I", "p/J", "p/K", "q/I", "q/J")
}

// any: of a class, an interface, an array, or of nothing.
func (r chance) any() string {
	switch r.Intn(12) {
	case 0, 1:
		return strings.Repeat("[", 1+r.Intn(2)) + "L" + r.noArray() + ";"
	case 2:
		return r.one("[I", "[J", "[[I", "[[Z", "", "[", "[V", "Lp/A;", "p/", "p/None", "None")
	}
	return r.noArray()
}

func (r chance) noArray() string {
	if r.Intn(3) == 0 {
		return r.face()
	}
	return r.class()
}

func (r chance) field() (string, string) { return r.one("x", "y"), r.one("I", "J") }

func (r chance) method() (string, string) {
	return r.one("m", "m", "n", "wait", "run", "<init>"), "()V"
}

// access: flags of a member.
func (r chance) access() uint16 {
	return []uint16{api.Public, api.Public, api.Protected, api.Protected, 0, 0, api.Private}[r.Intn(7)]
}

// build: a class of a name, which is right mostly.
func (r chance) build(name string, face bool) *built {
	var faces []string
	for range r.Intn(3) {
		f := r.face()
		if r.Intn(25) == 0 {
			f = r.noArray()
		}
		if !slices.Contains(faces, f) {
			faces = append(faces, f)
		}
	}
	flags, super := uint16(api.SuperFlag), r.class()
	if r.Intn(30) == 0 {
		super = r.face()
	}
	if face {
		flags, super = api.Interface|api.Abstract, object
	} else if r.Intn(3) == 0 {
		flags |= api.Abstract
	} else if r.Intn(12) == 0 {
		flags |= api.Final
	}
	if r.Intn(4) != 0 {
		flags |= api.Public
	}
	b := newBuilt(name, super, flags, faces...)
	for range r.Intn(4) {
		r.addField(b)
		r.addMethod(b)
	}
	return b
}

func (r chance) addField(b *built) {
	name, of := r.field()
	if own(b.fields, name, of) != nil {
		return
	}
	flags := r.access()
	if r.Intn(3) == 0 {
		flags |= api.Static
	}
	if b.Flags&api.Interface != 0 {
		flags = constant
	}
	b.field(flags, name, of)
}

func (r chance) addMethod(b *built) {
	name, of := r.method()
	if own(b.methods, name, of) != nil {
		return
	}
	flags := r.access()
	switch {
	case b.Flags&api.Interface != 0 && name == "<init>":
		return
	case b.Flags&api.Interface != 0:
		flags = faceMethod
	case name == "<init>":
	case r.Intn(6) == 0:
		flags |= api.Static
	case b.Flags&api.Abstract != 0 && flags != api.Private && r.Intn(3) == 0:
		flags |= api.Abstract
	}
	b.method(flags, name, of)
}

// ask: one call of both; what each tells.
func (r chance) ask(w *World, m *model) (call, got, want string) {
	a, b, thing := r.any(), r.any(), r.any()
	name, of := r.field()
	face := r.Intn(8) == 0
	if c := m.classes[b]; c != nil && r.Intn(8) != 0 {
		face = c.Flags&api.Interface != 0
	}
	switch r.Intn(8) {
	case 0:
		return fmt.Sprintf("Load(%q)", a), fmt.Sprint(w.Load(a)), fmt.Sprint(m.Load(a))
	case 1:
		call = fmt.Sprintf("Under(%q, %q)", a, b)
		is, e := w.Under(a, b)
		is2, e2 := m.Under(a, b)
		return call, fmt.Sprint(is, e), fmt.Sprint(is2, e2)
	case 2, 3:
		call = fmt.Sprintf("Field(%q, %q, %q, %q)", a, b, name, of)
		x, e := w.Field(a, b, name, of)
		y, e2 := m.Field(a, b, name, of)
		return call, fmt.Sprint(x, e), fmt.Sprint(y, e2)
	case 4:
		call = fmt.Sprintf("Layout(%q)", a)
		x, e := w.Layout(a)
		y, e2 := m.Layout(a)
		return call, fmt.Sprint(x, e), fmt.Sprint(y, e2)
	}
	name, of = r.method()
	if r.Intn(2) == 0 {
		call = fmt.Sprintf("Method(%q, %q, %q, %q, %v)", a, b, name, of, face)
		x, e := w.Method(a, b, name, of, face)
		y, e2 := m.Method(a, b, name, of, face)
		return call, fmt.Sprint(x, e), fmt.Sprint(y, e2)
	}
	call = fmt.Sprintf("Call(%q, %q, %q, %q, %v, %q)", a, b, name, of, face, thing)
	x, e := w.Call(a, b, name, of, face, thing)
	y, e2 := m.Call(a, b, name, of, face, thing)
	return call, fmt.Sprint(x, e), fmt.Sprint(y, e2)
}

// more: a class more, of both; only one below classes that are there, if grown.
func (r chance) more(t *testing.T, w *World, m *model, grown bool) {
	t.Helper()
	name, face := r.class(), false
	if r.Intn(3) == 0 {
		name, face = r.face(), true
	}
	b := r.build(name, face)
	for grown && slices.ContainsFunc(append([]string{b.super}, b.faces...), func(s string) bool { return m.classes[s] == nil }) {
		b = r.build(name, face)
	}
	_, has := m.classes[name]
	if got, e := w.Define(b.bytes(t)); has != (e == api.ErrHas) || !has && (got != name || e != api.OK) {
		t.Fatalf("Define of %s = %q, %d", name, got, e)
	}
	if !has {
		m.classes[name] = b
	}
}

// TestAgainstModel: any calls in any order, with classes defined between them, or all ahead.
func TestAgainstModel(t *testing.T) {
	r := chance{rand.New(rand.NewSource(6))}
	for k := range 1500 {
		w, m := New(), newModel()
		grown := k%3 != 0
		for range 60 {
			r.more(t, w, m, grown)
			for !grown && r.Intn(6) != 0 {
				r.same(t, w, m)
			}
		}
		for range 300 {
			r.same(t, w, m)
		}
	}
}

func (r chance) same(t *testing.T, w *World, m *model) {
	t.Helper()
	if call, got, want := r.ask(w, m); got != want {
		t.Fatalf("%s = %s, want %s", call, got, want)
	}
}
