package link

import (
	"testing"

	"jvmcore/api"
)

const constant = api.Public | api.Static | api.Final

// users: classes from which members of p/A are used. (p/None and None are not there.)
func users() []*built {
	return []*built{
		newBuilt("p/A", object, open),
		newBuilt("p/Other", object, open),
		newBuilt("p/Wrong", "Missing", open),
		newBuilt("q/Below", "p/A", open),
		newBuilt("q/Under", "q/Below", open),
		newBuilt("q/Hidden", "p/A", hidden),
		newBuilt("q/Wrong", "p/A", open, "Missing"),
		newBuilt("q/Circle", "q/Circle", open),
		newBuilt("q/Other", object, open),
		newBuilt("A", object, open),
	}
}

// accesses: who may use a member of p/A by its flags: Public, Protected, none, Private, a digit each.
func accesses() map[string]string {
	return map[string]string{
		"p/A": "1111", "p/Other": "1110", "p/Wrong": "1110", "p/None": "1110", "[Lp/A;": "1110", "[[Lp/None;": "1110", "p/": "1110",
		"q/Below": "1100", "q/Under": "1100", "q/Hidden": "1100",
		"q/Wrong": "1000", "q/Circle": "1000", "q/Other": "1000", "q/None": "1000", "[Lq/Below;": "1000", "[Lq/Under;": "1000", "[[I": "1000", "[I": "1000", "A": "1000", "None": "1000", "": "1000", "p": "1000", "p/q/A": "1000", "P/A": "1000", "[p/A": "1000", "[Lp/A": "1000", "Lp/A;": "1000", object: "1000",
	}
}

func TestFieldAccess(t *testing.T) {
	l := users()
	for k, flags := range []uint16{api.Public, api.Protected, 0, api.Private} {
		l[0].field(flags, "x", []string{"I", "J", "F", "D"}[k]).field(flags|api.Static, "s", []string{"I", "J", "F", "D"}[k])
	}
	for from, who := range accesses() {
		w := worldOf(t, l...)
		for k, of := range []string{"I", "J", "F", "D"} {
			for _, name := range []string{"x", "s"} {
				for _, class := range []string{"p/A", "q/Below", "q/Under"} {
					want := "p/A"
					if who[k] == '0' {
						want = errorText(api.ErrAccess)
					}
					if got := answer(w.Field(from, class, name, of)); got != want {
						t.Errorf("Field(%q, %q, %q, %q) = %s, want %s", from, class, name, of, got, want)
					}
				}
			}
		}
	}
}

// faceFamily: one class below another, with interfaces that have interfaces.
func faceFamily() []*built {
	return []*built{
		newBuilt("I", object, openFace, "I1", "I2"), newBuilt("I1", object, openFace), newBuilt("I2", object, openFace), newBuilt("J", object, openFace),
		newBuilt("K", object, openFace), newBuilt("Top", object, partial, "K"), newBuilt("A", "Top", partial, "I", "J"),
	}
}

// TestFieldOrder: the class's own, then those of its interfaces, each with its own interfaces, then what is above it: of any two that have it the first is told.
func TestFieldOrder(t *testing.T) {
	order := []string{"A", "I", "I1", "I2", "J", "Top", "K"}
	for k, first := range order {
		for _, second := range order[k:] {
			l := faceFamily()
			for _, b := range l {
				if b.name == first || b.name == second {
					b.field(constant, "x", "I")
				}
				b.field(constant, "x", "J").field(constant, "y", "I") // others, which are not asked for
			}
			w := worldOf(t, l...)
			want := api.Member{Class: first, Name: "x", Type: "I", Flags: constant}
			if m, e := w.Field("q/From", "A", "x", "I"); m != want || e != api.OK {
				t.Errorf("%s and %s: Field = %v, %d", first, second, m, e)
			}
		}
	}
	w := worldOf(t, faceFamily()...)
	for _, name := range order {
		if got := answer(w.Field(name, name, "x", "I")); got != errorText(api.ErrNoField) {
			t.Errorf("Field of %s = %s", name, got)
		}
	}
}

// TestFieldNames: the name and the descriptor, both, byte by byte.
func TestFieldNames(t *testing.T) {
	w := worldOf(t, newBuilt("A", object, open).field(api.Public, "x", "I").field(api.Volatile|0x5000, "<init>", "[LA;").method(api.Public, "m", "()V"))
	for _, c := range []struct{ name, of, want string }{
		{"x", "I", "A"}, {"<init>", "[LA;", "A"},
		{"x", "J", ""}, {"X", "I", ""}, {"", "I", ""}, {"x", "", ""}, {"xI", "", ""}, {"", "xI", ""}, {"x", "[LA;", ""}, {"<init>", "I", ""}, {"m", "()V", ""}, {"\xff", "\x00", ""},
	} {
		want := c.want
		if want == "" {
			want = errorText(api.ErrNoField)
		}
		if got := answer(w.Field("A", "A", c.name, c.of)); got != want {
			t.Errorf("Field of %q, %q = %s, want %s", c.name, c.of, got, want)
		}
	}
	if m, _ := w.Field("A", "A", "<init>", "[LA;"); m != (api.Member{Class: "A", Name: "<init>", Type: "[LA;", Flags: 0x5040}) {
		t.Errorf("all its flags: %v", m)
	}
}

// TestFieldErrors: each alone and with the next: the error of Load, ErrAccess of the class, ErrNoField, ErrAccess of the field.
func TestFieldErrors(t *testing.T) {
	w := worldOf(t,
		newBuilt("q/Right", object, open).field(api.Public, "x", "I").field(api.Private, "y", "I"),
		newBuilt("q/Hidden", object, hidden).field(api.Public, "x", "I").field(api.Private, "y", "I"),
		newBuilt("q/Circle", "q/Circle", hidden).field(api.Public, "x", "I").field(api.Private, "y", "I"),
		newBuilt("q/Below", "q/Hidden", open))
	for _, c := range []struct {
		from, class, name string
		want              api.Errno
	}{
		{"p/A", "q/Right", "x", api.OK}, {"p/A", "q/Right", "y", api.ErrAccess}, {"p/A", "q/Right", "z", api.ErrNoField},
		{"p/A", "q/Hidden", "x", api.ErrAccess}, {"p/A", "q/Hidden", "y", api.ErrAccess}, {"p/A", "q/Hidden", "z", api.ErrAccess},
		{"q/A", "q/Hidden", "x", api.OK}, {"q/A", "q/Hidden", "y", api.ErrAccess}, {"q/A", "q/Hidden", "z", api.ErrNoField},
		{"p/A", "q/Below", "x", api.OK}, {"p/A", "q/Below", "y", api.ErrAccess}, {"p/A", "q/Below", "z", api.ErrNoField},
		{"p/A", "q/Circle", "x", api.ErrCircle}, {"q/A", "q/Circle", "x", api.ErrCircle}, {"q/Circle", "q/Circle", "z", api.ErrCircle}, {"[I", "[Lq/Circle;", "z", api.ErrCircle},
		{"p/A", "Missing", "x", api.ErrNoClass}, {"", "", "", api.ErrNoClass}, {"q/A", "[V", "x", api.ErrNoClass}, {"q/A", "q/Right/", "x", api.ErrNoClass},
		{"p/A", "[I", "x", api.ErrNoField}, {"p/A", "[[Lq/Right;", "x", api.ErrNoField}, {"p/A", "[[Lq/Hidden;", "x", api.ErrAccess}, {"q/A", "[[Lq/Hidden;", "x", api.ErrNoField}, {"[Lq/None;", "[Lq/Hidden;", "x", api.ErrNoField}, {"[Lp/None;", "[Lq/Hidden;", "x", api.ErrAccess}, {"[Lq/None;", "q/Hidden", "x", api.OK},
		{"p/A", object, "x", api.ErrNoField},
	} {
		m, e := w.Field(c.from, c.class, c.name, "I")
		if e != c.want || (m != api.Member{}) != (e == api.OK) {
			t.Errorf("Field(%q, %q, %q) = %v, %d, want %d", c.from, c.class, c.name, m, e, c.want)
		}
	}
}

// TestWithoutPackage: classes of names without a slash are in one; arrays of values are with them.
func TestWithoutPackage(t *testing.T) {
	w := worldOf(t, newBuilt("Hidden", object, hidden).field(0, "x", "I"))
	for from, want := range map[string]string{"Hidden": "Hidden", "Other": "Hidden", "": "Hidden", "[LOther;": "Hidden", "[I": "Hidden", "p/Hidden": errorText(api.ErrAccess), "[Lp/Hidden;": errorText(api.ErrAccess), "/Hidden": errorText(api.ErrAccess)} {
		if got := answer(w.Field(from, "Hidden", "x", "I")); got != want {
			t.Errorf("from %q: Field = %s, want %s", from, got, want)
		}
	}
}

// TestFromIsLookedAt: only where a Protected member needs it; what is found is kept.
func TestFromIsLookedAt(t *testing.T) {
	l := []*built{newBuilt("p/A", object, open).field(api.Public, "a", "I").field(api.Protected, "b", "I").field(0, "c", "I").field(api.Private, "d", "I").field(api.Protected|api.Static, "e", "I")}
	for _, name := range []string{"q/A", "q/B", "q/C", "q/D", "q/E", "p/B", "p/C"} {
		l = append(l, newBuilt(name, "Late", open))
	}
	w := worldOf(t, l...)
	for _, c := range []struct {
		from, name string
		want       string
	}{
		{"q/A", "a", "p/A"}, {"q/B", "b", errorText(api.ErrAccess)}, {"q/C", "c", errorText(api.ErrAccess)}, {"q/D", "d", errorText(api.ErrAccess)}, {"[Lq/E;", "b", errorText(api.ErrAccess)}, {"p/B", "b", "p/A"}, {"p/C", "d", errorText(api.ErrAccess)},
	} {
		if got := answer(w.Field(c.from, "p/A", c.name, "I")); got != c.want {
			t.Errorf("from %s: Field of %s = %s, want %s", c.from, c.name, got, c.want)
		}
	}
	define(t, w, newBuilt("Late", "p/A", open))
	for name, want := range map[string]api.Errno{"q/A": api.OK, "q/B": api.ErrNoClass, "q/C": api.OK, "q/D": api.OK, "q/E": api.ErrNoClass, "p/B": api.OK, "p/C": api.OK} {
		loads(t, w, "since", name, want)
	}
	for from, want := range map[string]string{"q/A": "p/A", "q/B": errorText(api.ErrAccess), "q/C": "p/A"} {
		if got := answer(w.Field(from, "p/A", "b", "I")); got != want {
			t.Errorf("from %s: Field = %s, want %s", from, got, want)
		}
	}
}
