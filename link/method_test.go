package link

import (
	"testing"

	"jvmcore/api"
)

const faceMethod = api.Public | api.Abstract

// methods: what a Method must tell: a class, or an error.
type methods struct {
	from, class, name, of string
	face                  bool
	want                  string
}

func (c methods) check(t *testing.T, w *World) {
	t.Helper()
	m, e := w.Method(c.from, c.class, c.name, c.of, c.face)
	if got := answer(m, e); got != c.want || e == api.OK && (m.Name != c.name || m.Type != c.of) {
		t.Errorf("Method(%q, %q, %q, %q, %v) = %v, %d, want %s", c.from, c.class, c.name, c.of, c.face, m, e, c.want)
	}
}

func TestMethodAccess(t *testing.T) {
	l := users()
	types := []string{"()V", "()I", "()J", "()F"}
	for k, flags := range []uint16{api.Public, api.Protected, 0, api.Private} {
		l[0].method(flags, "m", types[k]).method(flags|api.Static, "s", types[k]).method(flags, "<init>", []string{"()V", "(I)V", "(J)V", "(F)V"}[k])
	}
	for from, who := range accesses() {
		w := worldOf(t, l...)
		for k, of := range types {
			want := "p/A"
			if who[k] == '0' {
				want = errorText(api.ErrAccess)
			}
			for _, class := range []string{"p/A", "q/Below", "q/Under"} {
				methods{from, class, "m", of, false, want}.check(t, w)
				methods{from, class, "s", of, false, want}.check(t, w)
			}
			methods{from, "p/A", "<init>", []string{"()V", "(I)V", "(J)V", "(F)V"}[k], false, want}.check(t, w)
		}
	}
}

// TestMethodOrder: the class's own, then all above it, then those of interfaces: of any two that have it the first is told.
func TestMethodOrder(t *testing.T) {
	order := []string{"A", "Top", "I", "I1", "I2", "J", "K"}
	for k, first := range order {
		for _, second := range order[k:] {
			l := faceFamily()
			for _, b := range l {
				if b.name == first || b.name == second {
					b.method(faceMethod, "m", "()V")
				}
				b.method(faceMethod, "m", "()I").method(faceMethod, "n", "()V") // others, which are not asked for
			}
			w := worldOf(t, l...)
			methods{"q/From", "A", "m", "()V", false, first}.check(t, w)
		}
	}
}

// TestFaceMethodOrder: the interface's own, then those of its interfaces, then those of java/lang/Object.
func TestFaceMethodOrder(t *testing.T) {
	order := []string{"I", "I1", "I11", "I12", "I2", object}
	for k, first := range order {
		for _, second := range order[k:] {
			l := []*built{newBuilt("I", object, openFace, "I1", "I2"), newBuilt("I1", object, openFace, "I11", "I12"), newBuilt("I2", object, openFace, "I11"), newBuilt("I11", object, openFace), newBuilt("I12", object, openFace)}
			for _, b := range l {
				if b.name == first || b.name == second {
					b.method(faceMethod, "wait", "()V")
				}
			}
			w := worldOf(t, l...)
			methods{"q/From", "I", "wait", "()V", true, first}.check(t, w)
		}
	}
	w := worldOf(t, newBuilt("I", object, openFace))
	methods{"I", "I", "notify", "()V", true, object}.check(t, w)
	methods{"I", "I", "notify", "()I", true, errorText(api.ErrNoMethod)}.check(t, w)
	methods{"I", "I", "<init>", "()V", true, errorText(api.ErrNoMethod)}.check(t, w)
	methods{"I", cloneable, "wait", "()V", true, object}.check(t, w)
}

// TestClassesBeforeFaces: what stands far above a class comes ahead of what its interfaces have, and java/lang/Object's too.
func TestClassesBeforeFaces(t *testing.T) {
	w := worldOf(t, newBuilt("I", object, openFace).method(faceMethod, "m", "()V").method(faceMethod, "wait", "()V").method(faceMethod, "only", "()V"),
		newBuilt("A", object, open).method(api.Public, "m", "()V"), newBuilt("B", "A", open), newBuilt("C", "B", partial, "I"), newBuilt("D", "C", partial))
	for _, class := range []string{"C", "D"} {
		methods{"A", class, "m", "()V", false, "A"}.check(t, w)
		methods{"A", class, "wait", "()V", false, object}.check(t, w)
		methods{"A", class, "only", "()V", false, "I"}.check(t, w)
	}
	methods{"A", "I", "wait", "()V", true, "I"}.check(t, w)
}

// TestMakers: of <init> the class's own alone is looked at; of <clinit> it is as of any other.
func TestMakers(t *testing.T) {
	w := worldOf(t,
		newBuilt("A", object, open).method(api.Public, "<init>", "()V").method(api.Public|api.Static, "<clinit>", "()V"), newBuilt("B", "A", open), newBuilt("C", "B", open).method(0, "<init>", "(I)V"),
		newBuilt("I", object, openFace).method(api.Public|api.Static, "<clinit>", "()V"), newBuilt("J", object, openFace, "I"), newBuilt("D", object, open, "J"))
	none := errorText(api.ErrNoMethod)
	for _, c := range []methods{
		{"A", "A", "<init>", "()V", false, "A"}, {"A", "B", "<init>", "()V", false, none}, {"A", "C", "<init>", "()V", false, none}, {"A", "C", "<init>", "(I)V", false, "C"}, {"A", "C", "<init>", "(J)V", false, none}, {"A", object, "<init>", "()V", false, object}, {"A", "[LB;", "<init>", "()V", false, object}, {"A", "java/lang/String", "<init>", "()V", false, none},
		{"A", "I", "<init>", "()V", true, none}, {"A", "J", "<init>", "()V", true, none}, {"A", "J", "<init>", "(I)V", true, none},
		{"A", "C", "<clinit>", "()V", false, "A"}, {"A", "J", "<clinit>", "()V", true, "I"}, {"A", "D", "<clinit>", "()V", false, "I"},
	} {
		c.check(t, w)
	}
}

func TestArrayMethods(t *testing.T) {
	w := worldOf(t, newBuilt("q/A", object, open).method(api.Public, "m", "()V"), newBuilt("q/Hidden", object, hidden), newBuilt("I", object, openFace).method(faceMethod, "m", "()V"))
	for _, array := range []string{"[I", "[[[D", "[Lq/A;", "[[Lq/A;", "[LI;", "[Ljava/lang/String;"} {
		methods{"p/A", array, "wait", "()V", false, object}.check(t, w)
		methods{"p/A", array, "m", "()V", false, errorText(api.ErrNoMethod)}.check(t, w)
		methods{"p/A", array, "length", "()I", false, errorText(api.ErrNoMethod)}.check(t, w)
		methods{"p/A", array, "wait", "()V", true, errorText(api.ErrChange)}.check(t, w)
	}
	methods{"p/A", "[Lq/Hidden;", "wait", "()V", false, errorText(api.ErrAccess)}.check(t, w)
	methods{"p/A", "[Lq/Hidden;", "wait", "()V", true, errorText(api.ErrAccess)}.check(t, w)
	methods{"q/B", "[Lq/Hidden;", "wait", "()V", false, object}.check(t, w)
	methods{"q/B", "[Lq/None;", "wait", "()V", false, errorText(api.ErrNoClass)}.check(t, w)
}

// TestAbstract: one that is Abstract may be referred to in a class that is Abstract too, whosever it is.
func TestAbstract(t *testing.T) {
	w := worldOf(t,
		newBuilt("I", object, openFace).method(faceMethod, "i", "()V"), newBuilt("p/A", object, partial, "I").method(api.Abstract, "a", "()V").method(faceMethod, "b", "()V").method(api.Public, "c", "()V"),
		newBuilt("p/B", "p/A", open).method(api.Public, "b", "()V"), newBuilt("p/C", "p/B", partial).method(faceMethod, "c", "()V"), newBuilt("p/D", "p/C", open))
	abstract := errorText(api.ErrAbstract)
	for _, c := range []methods{
		{"p/X", "p/A", "i", "()V", false, "I"}, {"p/X", "p/A", "a", "()V", false, "p/A"}, {"p/X", "p/A", "b", "()V", false, "p/A"}, {"p/X", "p/A", "c", "()V", false, "p/A"},
		{"p/X", "p/B", "i", "()V", false, abstract}, {"p/X", "p/B", "a", "()V", false, abstract}, {"p/X", "p/B", "b", "()V", false, "p/B"}, {"p/X", "p/B", "c", "()V", false, "p/A"},
		{"p/X", "p/C", "i", "()V", false, "I"}, {"p/X", "p/C", "a", "()V", false, "p/A"}, {"p/X", "p/C", "b", "()V", false, "p/B"}, {"p/X", "p/C", "c", "()V", false, "p/C"},
		{"p/X", "p/D", "i", "()V", false, abstract}, {"p/X", "p/D", "a", "()V", false, abstract}, {"p/X", "p/D", "b", "()V", false, "p/B"}, {"p/X", "p/D", "c", "()V", false, abstract},
		{"q/X", "p/A", "a", "()V", false, errorText(api.ErrAccess)}, {"q/X", "p/B", "a", "()V", false, abstract}, {"p/X", "I", "i", "()V", true, "I"},
	} {
		c.check(t, w)
	}
}

// TestMethodErrors: each alone and with the next: the error of Load, ErrAccess of the class, ErrChange, ErrNoMethod, ErrAbstract, ErrAccess of the method.
func TestMethodErrors(t *testing.T) {
	w := worldOf(t,
		newBuilt("q/A", object, partial).method(api.Abstract, "a", "()V").method(0, "m", "()V").method(api.Public, "p", "()V"), newBuilt("q/B", "q/A", open),
		newBuilt("q/Hidden", "q/A", hidden), newBuilt("q/Circle", "q/Circle", hidden), newBuilt("q/I", object, openFace).method(faceMethod, "i", "()V"), newBuilt("q/HiddenFace", object, hideFace, "q/I"), newBuilt("q/WrongFace", object, hideFace, "q/A"))
	for _, c := range []struct {
		from, class string
		face        bool
		names       string
		want        []api.Errno
	}{
		{"p/X", "q/B", false, "amp-", []api.Errno{api.ErrAbstract, api.ErrAccess, api.OK, api.ErrNoMethod}},
		{"q/X", "q/B", false, "amp-", []api.Errno{api.ErrAbstract, api.OK, api.OK, api.ErrNoMethod}},
		{"p/X", "q/A", false, "amp-", []api.Errno{api.ErrAccess, api.ErrAccess, api.OK, api.ErrNoMethod}},
		{"p/X", "q/B", true, "amp-", []api.Errno{api.ErrChange, api.ErrChange, api.ErrChange, api.ErrChange}},
		{"p/X", "q/I", false, "i-", []api.Errno{api.ErrChange, api.ErrChange}},
		{"p/X", "q/I", true, "i-", []api.Errno{api.OK, api.ErrNoMethod}},
		{"p/X", "q/Hidden", false, "amp-", []api.Errno{api.ErrAccess, api.ErrAccess, api.ErrAccess, api.ErrAccess}},
		{"p/X", "q/Hidden", true, "amp-", []api.Errno{api.ErrAccess, api.ErrAccess, api.ErrAccess, api.ErrAccess}},
		{"q/X", "q/Hidden", false, "amp-", []api.Errno{api.ErrAbstract, api.OK, api.OK, api.ErrNoMethod}},
		{"q/X", "q/Hidden", true, "amp-", []api.Errno{api.ErrChange, api.ErrChange, api.ErrChange, api.ErrChange}},
		{"p/X", "q/HiddenFace", true, "i-", []api.Errno{api.ErrAccess, api.ErrAccess}},
		{"p/X", "q/HiddenFace", false, "i-", []api.Errno{api.ErrAccess, api.ErrAccess}},
		{"q/X", "q/HiddenFace", false, "i-", []api.Errno{api.ErrChange, api.ErrChange}},
		{"q/X", "q/HiddenFace", true, "i-", []api.Errno{api.OK, api.ErrNoMethod}},
		{"p/X", "q/Circle", false, "a", []api.Errno{api.ErrCircle}}, {"p/X", "q/Circle", true, "a", []api.Errno{api.ErrCircle}}, {"q/Circle", "q/Circle", false, "-", []api.Errno{api.ErrCircle}},
		{"q/X", "q/WrongFace", true, "i", []api.Errno{api.ErrChange}}, {"q/X", "q/WrongFace", false, "i", []api.Errno{api.ErrChange}},
		{"p/X", "Missing", false, "a", []api.Errno{api.ErrNoClass}}, {"p/X", "", true, "a", []api.Errno{api.ErrNoClass}}, {"p/X", "[LMissing;", true, "a", []api.Errno{api.ErrNoClass}},
	} {
		for k := range c.names {
			name := c.names[k : k+1]
			m, e := w.Method(c.from, c.class, name, "()V", c.face)
			if e != c.want[k] || (m != api.Member{}) != (e == api.OK) {
				t.Errorf("Method(%q, %q, %q, %v) = %v, %d, want %d", c.from, c.class, name, c.face, m, e, c.want[k])
			}
		}
	}
}
