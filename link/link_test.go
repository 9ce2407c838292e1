package link

import (
	"fmt"
	"testing"

	"jvmcore/api"
	"jvmcore/class"
)

// The flags of most classes.
const (
	open     = api.Public | api.SuperFlag
	hidden   = api.SuperFlag
	shut     = api.Public | api.SuperFlag | api.Final
	partial  = api.Public | api.SuperFlag | api.Abstract
	openFace = api.Public | api.Interface | api.Abstract
	hideFace = api.Interface | api.Abstract
)

// built: a class file that is put together, and what was told of it.
type built struct {
	api.Class
	name, super     string
	faces           []string
	fields, methods []api.Member
}

func newBuilt(name, super string, flags uint16, faces ...string) *built {
	b := &built{Class: api.Class{Major: 51, Flags: flags, Pool: []api.Const{{}}}, name: name, super: super, faces: faces}
	for _, s := range []string{"Code", "ConstantValue", "StackMapTable"} {
		b.text(s)
	}
	b.This, b.Super = b.classRef(name), b.classRef(super)
	for _, f := range faces {
		b.Interfaces = append(b.Interfaces, b.classRef(f))
	}
	return b
}

func (b *built) text(s string) uint16 {
	b.Pool = append(b.Pool, api.Const{Tag: api.Utf8, Text: s})
	return uint16(len(b.Pool) - 1)
}

func (b *built) classRef(s string) uint16 {
	b.Pool = append(b.Pool, api.Const{Tag: api.ClassRef, A: b.text(s)})
	return uint16(len(b.Pool) - 1)
}

func (b *built) field(flags uint16, name, of string) *built {
	b.fields = append(b.fields, api.Member{Class: b.name, Name: name, Type: of, Flags: flags})
	b.Fields = append(b.Fields, api.Field{Flags: flags, Name: b.text(name), Type: b.text(of)})
	return b
}

// method: one that returns, unless it can have no code.
func (b *built) method(flags uint16, name, of string) *built {
	b.methods = append(b.methods, api.Member{Class: b.name, Name: name, Type: of, Flags: flags})
	m := api.Method{Flags: flags, Name: b.text(name), Type: b.text(of)}
	if flags&(api.Abstract|api.Native) == 0 {
		m.HasCode, m.Code = true, api.Code{MaxLocals: 255, Bytes: "\xb1"}
	}
	b.Methods = append(b.Methods, m)
	return b
}

func (b *built) bytes(t *testing.T) string {
	t.Helper()
	s, e := class.Write(b.Class)
	if e != api.OK {
		t.Fatalf("%s: Write = %d", b.name, e)
	}
	return s
}

func define(t *testing.T, w *World, l ...*built) {
	t.Helper()
	for _, b := range l {
		if name, e := w.Define(b.bytes(t)); name != b.name || e != api.OK {
			t.Fatalf("Define of %q = %q, %d", b.name, name, e)
		}
	}
}

func worldOf(t *testing.T, l ...*built) *World {
	t.Helper()
	w := New()
	define(t, w, l...)
	return w
}

// answer: what a call tells of a member, as a text: where it was found, or the error.
func answer(m api.Member, e api.Errno) string {
	if e == api.OK {
		return m.Class
	}
	if m != (api.Member{}) {
		return fmt.Sprintf("error %d with %v", e, m)
	}
	return errorText(e)
}

func errorText(e api.Errno) string { return fmt.Sprintf("error %d", e) }

func TestDefine(t *testing.T) {
	w := New()
	one := newBuilt("p/A", object, open).bytes(t)
	for _, c := range []struct {
		what, s, name string
		e             api.Errno
	}{
		{"nothing", "", "", api.ErrEnd},
		{"four bytes", "\xca\xfe\xba\xbf", "", api.ErrMagic},
		{"cut short", one[:len(one)-1], "", api.ErrEnd},
		{"too long", one + "\x00", "", api.ErrRest},
		{"of another version", one[:7] + "\x34" + one[8:], "", api.ErrVersion},
		{"flags", newBuilt("X", object, api.Abstract|api.Final).bytes(t), "", api.ErrFlags},
		{"a name", newBuilt("a//b", object, open).bytes(t), "", api.ErrName},
		{"an array", newBuilt("[I", object, open).bytes(t), "", api.ErrName},
		{"above it an array", newBuilt("X", "[I", open).bytes(t), "", api.ErrName},
		{"an interface twice", newBuilt("X", object, open, "I", "I").bytes(t), "", api.ErrTwice},
		{"a method's code", newBuilt("X", object, open).method(api.Abstract, "m", "()V").bytes(t), "", api.ErrFlags},
		{"a class", one, "p/A", api.OK},
		{"again", one, "", api.ErrHas},
		{"another of that name", newBuilt("p/A", "Missing", api.Final).bytes(t), "", api.ErrHas},
		{"a wrong one of that name", newBuilt("p/A", object, api.Abstract|api.Final).bytes(t), "", api.ErrFlags},
		{"too long, of that name", one + "\x00", "", api.ErrRest},
		{"java/lang/Object", newBuilt(object, object, open).bytes(t), "", api.ErrHas},
		{"one that is there at first", newBuilt("java/lang/VerifyError", object, open).bytes(t), "", api.ErrHas},
		{"a wrong one", newBuilt("jvm/Out", object, api.Interface).bytes(t), "", api.ErrFlags},
		{"what is above it is not there", newBuilt("X", "Missing", open, "Missing2").bytes(t), "X", api.OK},
		{"without a package", newBuilt("A", "A", open, "A").bytes(t), "A", api.OK},
	} {
		if name, e := w.Define(c.s); name != c.name || e != c.e {
			t.Errorf("%s: Define = %q, %d, want %q, %d", c.what, name, e, c.name, c.e)
		}
	}
	for name, want := range map[string]api.Errno{"p/A": api.OK, object: api.OK, "jvm/Out": api.OK, "a//b": api.ErrNoClass, "X": api.ErrNoClass, "A": api.ErrCircle} {
		if e := w.Load(name); e != want {
			t.Errorf("Load(%q) = %d, want %d", name, e, want)
		}
	}
}

// TestDefineChangesNothing: with an error the world is as it was.
func TestDefineChangesNothing(t *testing.T) {
	w := worldOf(t, newBuilt("A", object, open).field(api.Public, "x", "I"))
	w.Define(newBuilt("A", "Missing", open).field(api.Public, "y", "I").bytes(t))
	w.Define(newBuilt("B", object, api.Abstract|api.Final).bytes(t))
	w.Define(newBuilt(object, "A", open).bytes(t))
	for name, want := range map[string]string{"x": "A", "y": errorText(api.ErrNoField)} {
		if got := answer(w.Field("B", "A", name, "I")); got != want {
			t.Errorf("Field of %s = %s, want %s", name, got, want)
		}
	}
	if e := w.Load("B"); e != api.ErrNoClass {
		t.Errorf("Load = %d", e)
	}
	if is, e := w.Under(object, "A"); is || e != api.OK {
		t.Errorf("Under = %v, %d", is, e)
	}
}

// TestWorlds: none hangs on another, even if they are used at once.
func TestWorlds(t *testing.T) {
	a, b := New(), New()
	s := newBuilt("A", "B", open).bytes(t)
	for _, w := range []*World{a, b} {
		if name, e := w.Define(s); name != "A" || e != api.OK {
			t.Errorf("Define = %q, %d", name, e)
		}
	}
	if e := a.Load("A"); e != api.ErrNoClass {
		t.Errorf("Load = %d", e)
	}
	define(t, b, newBuilt("B", object, open))
	if in, out := b.Load("A"), a.Load("B"); in != api.OK || out != api.ErrNoClass {
		t.Errorf("Load = %d, %d", in, out)
	}
	done := make(chan string)
	for n := range 8 {
		go atOnce(classesAbove(t, n), done)
	}
	for range 8 {
		if got := <-done; got != "50 x7 0 java/lang/Thread 0" {
			t.Errorf("at once: %s", got)
		}
	}
}

// classesAbove: fifty below each other and below java/lang/Thread, each with a field of its own; not the same for each n.
func classesAbove(t *testing.T, n int) []string {
	var l []string
	super := "java/lang/Thread"
	for k := range 50 {
		name := fmt.Sprint("p/A", n, "/", k)
		l = append(l, newBuilt(name, super, open).field(0, fmt.Sprint("x", k), "I").bytes(t))
		super = name
	}
	return l
}

// atOnce: a world is made, filled and asked.
func atOnce(files []string, done chan string) {
	w := New()
	var names []string
	for _, s := range files {
		name, _ := w.Define(s)
		names = append(names, name)
	}
	l, e := w.Layout(names[49])
	m, e2 := w.Call("", names[7], "run", "()V", false, names[49])
	done <- fmt.Sprintf("%d %s %d %s %d", len(l), l[7].Name, e, m.Class, e2)
}

// TestManyWays: each class is looked at once, however many ways lead to it.
func TestManyWays(t *testing.T) {
	w := worldOf(t, newBuilt("L0", object, openFace), newBuilt("R0", object, openFace))
	const high = 200
	for k := 1; k <= high; k++ {
		below := []string{fmt.Sprint("L", k-1), fmt.Sprint("R", k-1)}
		define(t, w, newBuilt(fmt.Sprint("L", k), object, openFace, below...), newBuilt(fmt.Sprint("R", k), object, openFace, below...))
	}
	top := fmt.Sprint("L", high)
	define(t, w, newBuilt("C", object, open, top), newBuilt("I", object, openFace))
	for b, want := range map[string]bool{"L0": true, "R0": true, "I": false} {
		if is, e := w.Under("C", b); is != want || e != api.OK {
			t.Errorf("Under(C, %s) = %v, %d", b, is, e)
		}
	}
	for what, got := range map[string]string{
		"field":  answer(w.Field("C", "C", "x", "I")) + errorText(api.ErrNoMethod),
		"method": errorText(api.ErrNoField) + answer(w.Method("C", "C", "m", "()V", false)),
		"face":   errorText(api.ErrNoField) + answer(w.Method("C", top, "m", "()V", true)),
	} {
		if got != errorText(api.ErrNoField)+errorText(api.ErrNoMethod) {
			t.Errorf("%s: %s", what, got)
		}
	}
}

// TestDeep: very many classes above each other, of classes and of interfaces.
func TestDeep(t *testing.T) {
	w := New()
	const high = 100000
	for k := range high {
		super, faces := fmt.Sprint("C", k+1), []string{fmt.Sprint("I", k+1)}
		if k == high-1 {
			super, faces = object, nil
		}
		define(t, w, newBuilt(fmt.Sprint("C", k), super, partial), newBuilt(fmt.Sprint("I", k), object, openFace, faces...))
	}
	last := fmt.Sprint("C", high-1)
	lastFace := fmt.Sprint("I", high-1)
	define(t, w, newBuilt("D", "C0", open, "I0"))
	for _, b := range []string{last, lastFace} {
		if is, e := w.Under("D", b); !is || e != api.OK {
			t.Errorf("Under(D, %s) = %v, %d", b, is, e)
		}
	}
	if got := answer(w.Method("D", "D", "wait", "()V", false)); got != object {
		t.Errorf("Method = %s", got)
	}
	if got := answer(w.Call("D", "I0", "wait", "()V", true, "D")); got != object {
		t.Errorf("Call = %s", got)
	}
	if got := answer(w.Field("D", "D", "x", "I")); got != errorText(api.ErrNoField) {
		t.Errorf("Field = %s", got)
	}
	if l, e := w.Layout("D"); len(l) != 0 || e != api.OK {
		t.Errorf("Layout = %v, %d", l, e)
	}
}
