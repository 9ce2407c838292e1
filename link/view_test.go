package link

import (
	"reflect"
	"testing"

	"jvmcore/api"
	"jvmcore/class"
)

// A class file is told as it was read, and in lists that nobody else has.
func TestFile(t *testing.T) {
	b := newBuilt("A", object, open, cloneable).field(api.Static, "x", "I").method(api.Public, "m", "()V").method(api.Native, "n", "(J)I")
	b.Methods[0].Code.Handlers = []api.Handler{{From: 0, To: 1, Target: 0}}
	s := b.bytes(t)
	want, _, _ := class.Read(s)
	w := worldOf(t, b)
	spoilt, there := w.File("A")
	if !there || !reflect.DeepEqual(spoilt, want) {
		t.Fatalf("File = %v, %v, want %v", spoilt, there, want)
	}
	clear(spoilt.Pool)
	clear(spoilt.Interfaces)
	clear(spoilt.Fields)
	clear(spoilt.Methods[0].Code.Handlers)
	clear(spoilt.Methods)
	if again, _ := w.File("A"); !reflect.DeepEqual(again, want) {
		t.Errorf("File behind others' writing = %v, want %v", again, want)
	}
	for _, name := range []string{"None", "[LA;", "[I", ""} {
		if c, there := w.File(name); there || !reflect.DeepEqual(c, api.Class{}) {
			t.Errorf("File of %q = %v, %v", name, c, there)
		}
	}
}

func TestFirstAndInterface(t *testing.T) {
	w := worldOf(t, newBuilt("A", object, open), newBuilt("I", object, openFace))
	for _, c := range []struct {
		name        string
		first, face bool
	}{
		{object, true, false}, {cloneable, true, true}, {serializable, true, true}, {"java/lang/VerifyError", true, false}, {"jvm/Out", true, false},
		{"A", false, false}, {"I", false, true}, {"None", false, false}, {"[I", false, false}, {"[LI;", false, false}, {"", false, false},
	} {
		if first, face := w.First(c.name), w.Interface(c.name); first != c.first || face != c.face {
			t.Errorf("%q: %v, %v, want %v, %v", c.name, first, face, c.first, c.face)
		}
	}
}

func TestAbove(t *testing.T) {
	w := worldOf(t,
		newBuilt("A", object, open).method(api.Public, "m", "()V"),
		newBuilt("B", "A", open).method(api.Public, "n", "()V"),
		newBuilt("C", "B", open, "I").method(api.Protected, "m", "()V"),
		newBuilt("D", "C", open).method(0, "m", "()V"),
		newBuilt("I", object, openFace).method(api.Public|api.Abstract, "m", "()V"),
		newBuilt("Low", "None", open))
	all := func(class, name, of string) []string {
		var l []string
		for m := range w.Above(class, name, of) {
			l = append(l, m.Class)
		}
		return l
	}
	if l := all("D", "m", "()V"); l != nil {
		t.Errorf("of a class that was not looked at: %v", l)
	}
	for _, name := range []string{"D", "A", "Low"} {
		w.Load(name)
	}
	for _, c := range []struct {
		class, name, of string
		want            []string
	}{
		{"D", "m", "()V", []string{"C", "A"}}, {"C", "m", "()V", []string{"A"}}, {"A", "m", "()V", nil}, {"D", "n", "()V", []string{"B"}}, {"D", "m", "()I", nil},
		{"D", "notify", "()V", []string{object}}, {"Low", "m", "()V", nil}, {"None", "m", "()V", nil}, {"[LD;", "m", "()V", nil},
	} {
		if l := all(c.class, c.name, c.of); !reflect.DeepEqual(l, c.want) {
			t.Errorf("above %s, %s%s: %v, want %v", c.class, c.name, c.of, l, c.want)
		}
	}
	for m := range w.Above("D", "m", "()V") {
		if m.Class != "C" {
			t.Errorf("the nearest is of %s", m.Class)
		}
		break
	}
}
