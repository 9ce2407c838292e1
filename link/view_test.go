package link

import (
	"reflect"
	"testing"

	"jvmcore/api"
	"jvmcore/class"
)

// A class file is told as it was read, and in lists that nobody else has.
func TestFile(t *testing.T) {
	b := newBuilt("A", object, open, cloneable).field(api.Static, "x", "I").method(api.Public, "m", "()V").method(api.Native, "n", "(J)I")
	b.Methods[0].Code.Handlers = []api.Handler{{From: 0, To: 1, Target: 0}}
	s := b.bytes(t)
	want, _, _ := class.Read(s)
	w := worldOf(t, b)
	spoilt, there := w.File("A")
	if !there || !reflect.DeepEqual(spoilt, want) {
		t.Fatalf("File = %v, %v, want %v", spoilt, there, want)
	}
	clear(spoilt.Pool)
	clear(spoilt.Interfaces)
	clear(spoilt.Fields)
	clear(spoilt.Methods[0].Code.Handlers)
	clear(spoilt.Methods)
	if again, _ := w.File("A"); !reflect.DeepEqual(again, want) {
		t.Errorf("File behind others' writing = %v, want %v", again, want)
	}
	for _, name := range []string{"None", "[LA;", "[I", ""} {
		if c, there := w.File(name); there || !reflect.DeepEqual(c, api.Class{}) {
			t.Errorf("File of %q = %v, %v", name, c, there)
		}
	}
}

func TestFirstAndInterface(t *testing.T) {
	w := worldOf(t, newBuilt("A", object, open), newBuilt("I", object, openFace))
	for _, c := range []struct {
		name        string
		first, face bool
	}{
		{object, true, false}, {cloneable, true, true}, {serializable, true, true}, {"java/lang/VerifyError", true, false}, {"jvm/Out", true, false},
		{"A", false, false}, {"I", false, true}, {"None", false, false}, {"[I", false, false}, {"[LI;", false, false}, {"", false, false},
	} {
		if first, face := w.First(c.name), w.Interface(c.name); first != c.first || face != c.face {
			t.Errorf("%q: %v, %v, want %v, %v", c.name, first, face, c.first, c.face)
		}
	}
}

func TestAbove(t *testing.T) {
	w := worldOf(t,
		newBuilt("A", object, open).method(api.Public, "m", "()V"),
		newBuilt("B", "A", open).method(api.Public, "n", "()V"),
		newBuilt("C", "B", open, "I").method(api.Protected, "m", "()V"),
		newBuilt("D", "C", open).method(0, "m", "()V"),
		newBuilt("I", object, openFace).method(api.Public|api.Abstract, "m", "()V"),
		newBuilt("Low", "None", open))
	all := func(class, name, of string) []string {
		var l []string
		for m := range w.Above(class, name, of) {
			l = append(l, m.Class)
		}
		return l
	}
	if l := all("D", "m", "()V"); l != nil {
		t.Errorf("of a class that was not looked at: %v", l)
	}
	for _, name := range []string{"D", "A", "Low"} {
		w.Load(name)
	}
	for _, c := range []struct {
		class, name, of string
		want            []string
	}{
		{"D", "m", "()V", []string{"C", "A"}}, {"C", "m", "()V", []string{"A"}}, {"A", "m", "()V", nil}, {"D", "n", "()V", []string{"B"}}, {"D", "m", "()I", nil},
		{"D", "notify", "()V", []string{object}}, {"Low", "m", "()V", nil}, {"None", "m", "()V", nil}, {"[LD;", "m", "()V", nil},
	} {
		if l := all(c.class, c.name, c.of); !reflect.DeepEqual(l, c.want) {
			t.Errorf("above %s, %s%s: %v, want %v", c.class, c.name, c.of, l, c.want)
		}
	}
	for m := range w.Above("D", "m", "()V") {
		if m.Class != "C" {
			t.Errorf("the nearest is of %s", m.Class)
		}
		break
	}
}

// A class is found as a reference's class is.
func TestFind(t *testing.T) {
	w := worldOf(t, newBuilt("A", object, open), newBuilt("q/Shut", object, hidden), newBuilt("q/B", object, open), newBuilt("Low", "None", open), newBuilt("Ring", "Ring", open))
	for _, c := range []struct {
		from, name string
		e          api.Errno
	}{
		{"A", "A", api.OK}, {"A", object, api.OK}, {"A", "[I", api.OK}, {"A", "[[LA;", api.OK}, {"q/B", "q/Shut", api.OK}, {"q/B", "[Lq/Shut;", api.OK}, {"[Lq/B;", "q/Shut", api.OK},
		{"A", "q/Shut", api.ErrAccess}, {"A", "[[Lq/Shut;", api.ErrAccess}, {"A", "None", api.ErrNoClass}, {"A", "[LNone;", api.ErrNoClass}, {"A", "", api.ErrNoClass}, {"A", "[V", api.ErrNoClass}, {"A", "Low", api.ErrNoClass}, {"A", "Ring", api.ErrCircle}, {"None", "A", api.OK},
	} {
		if e := w.Find(c.from, c.name); e != c.e {
			t.Errorf("Find(%q, %q) = %d, want %d", c.from, c.name, e, c.e)
		}
	}
}

// Selected: as Call selects, but that what the thing is of is not looked at.
func TestSelected(t *testing.T) {
	w := worldOf(t,
		newBuilt("A", object, open|api.Abstract).method(api.Public, "m", "()V").method(api.Private, "p", "()V").method(api.Public|api.Abstract, "x", "()V"),
		newBuilt("B", "A", open, "I").method(api.Public, "m", "()V").method(api.Public, "p", "()V").method(0, "i", "()V"),
		newBuilt("C", "B", open),
		newBuilt("I", object, openFace).method(api.Public|api.Abstract, "i", "()V"),
		newBuilt("Low", "None", open))
	for _, name := range []string{"C", "I", "Low"} {
		w.Load(name)
	}
	method := func(class, name string, flags uint16) api.Member {
		return api.Member{Class: class, Name: name, Type: "()V", Flags: flags}
	}
	for _, c := range []struct {
		m     api.Member
		thing string
		want  string
	}{
		{method("A", "m", api.Public), "A", "A"}, {method("A", "m", api.Public), "B", "B"}, {method("A", "m", api.Public), "C", "B"},
		{method("A", "p", api.Private), "C", "A"}, {method("A", "x", api.Public|api.Abstract), "C", errorText(api.ErrAbstract)},
		{method("I", "i", api.Public|api.Abstract), "C", errorText(api.ErrAccess)}, {method("I", "i", api.Public|api.Abstract), object, errorText(api.ErrAbstract)},
		{method(object, "notify", api.Public|api.Native), "[LC;", object}, {method(object, "notify", api.Public|api.Native), "[I", object}, {method(object, "notify", api.Public|api.Native), "C", object},
		{method("A", "m", api.Public), "None", errorText(api.ErrAbstract)}, {method("A", "m", api.Public), "Low", errorText(api.ErrAbstract)}, {method("A", "m", api.Public), "[LLow;", errorText(api.ErrAbstract)}, {method("A", "m", api.Public), "", errorText(api.ErrAbstract)},
		{method("None", "m", api.Public), "C", "B"},
	} {
		if got := answer(w.Selected(c.m, c.thing)); got != c.want {
			t.Errorf("%s.%s of a thing of %q: %s, want %s", c.m.Class, c.m.Name, c.thing, got, c.want)
		}
	}
}
