package link

import (
	"slices"
	"testing"

	"jvmcore/api"
)

func TestLayout(t *testing.T) {
	w := worldOf(t,
		newBuilt("p/A", object, open, "I").field(api.Private, "z", "I").field(api.Static, "s", "I").field(api.Public, "a", "J").field(api.Final|0x1000, "m", "[I"),
		newBuilt("p/Empty", "p/A", open).field(api.Static, "s", "J"),
		newBuilt("q/B", "p/Empty", hidden).field(0, "z", "I").field(api.Protected, "b", "Lx;"),
		newBuilt("I", object, openFace).field(constant, "k", "I"),
		newBuilt("None", object, open))
	first := []api.Member{{Class: "p/A", Name: "z", Type: "I", Flags: api.Private}, {Class: "p/A", Name: "a", Type: "J", Flags: api.Public}, {Class: "p/A", Name: "m", Type: "[I", Flags: api.Final | 0x1000}}
	both := append(slices.Clone(first), api.Member{Class: "q/B", Name: "z", Type: "I"}, api.Member{Class: "q/B", Name: "b", Type: "Lx;", Flags: api.Protected})
	for name, want := range map[string][]api.Member{"p/A": first, "p/Empty": first, "q/B": both, "I": nil, "None": nil, object: nil, "java/lang/String": nil} {
		for range 3 {
			l, e := w.Layout(name)
			if !slices.Equal(l, want) || e != api.OK {
				t.Errorf("Layout(%q) = %v, %d", name, l, e)
			}
			clear(l)
			_ = append(l[:0:cap(l)], make([]api.Member, cap(l))...)
		}
	}
	if m, e := w.Field("q/X", "q/B", "a", "J"); m != first[1] || e != api.OK {
		t.Errorf("Field = %v, %d", m, e)
	}
}

func TestLayoutErrors(t *testing.T) {
	w := worldOf(t, newBuilt("A", object, open).field(0, "x", "I"), newBuilt("Circle", "Circle", open).field(0, "x", "I"), newBuilt("Final", "java/lang/String", open), newBuilt("Wrong", "A", open, "Missing").field(0, "y", "I"))
	for name, want := range map[string]api.Errno{"": api.ErrNoClass, "Missing": api.ErrNoClass, "I": api.ErrNoClass, "[V": api.ErrNoClass, "[LMissing;": api.ErrNoClass, "[I": api.ErrChange, "[[LA;": api.ErrChange, "Circle": api.ErrCircle, "[LCircle;": api.ErrCircle, "Final": api.ErrChange, "Wrong": api.ErrNoClass} {
		if l, e := w.Layout(name); len(l) != 0 || e != want {
			t.Errorf("Layout(%q) = %v, %d, want %d", name, l, e, want)
		}
	}
}
