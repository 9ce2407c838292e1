package link

import (
	"strings"
	"testing"

	"jvmcore/api"
)

func TestUnder(t *testing.T) {
	w := worldOf(t,
		newBuilt("I", object, openFace), newBuilt("J", object, openFace, "I"), newBuilt("K", object, openFace),
		newBuilt("A", object, open, "K", "J"), newBuilt("B", "A", open), newBuilt("C", "B", open, "L"), newBuilt("L", object, openFace, "K"), newBuilt("D", object, open), newBuilt("q/H", object, hidden))
	above := map[string]string{
		"I": "I", "J": "J I", "K": "K", "L": "L K", "A": "A K J I", "B": "B A K J I", "C": "C B A K J I L", "D": "D", "q/H": "q/H", object: "",
		"java/lang/Cloneable": "java/lang/Cloneable", "java/io/Serializable": "java/io/Serializable",
		"java/lang/String": "java/lang/String java/io/Serializable", "java/lang/VerifyError": "java/lang/VerifyError java/lang/LinkageError java/lang/Error java/lang/Throwable java/io/Serializable",
	}
	isAbove := func(a, b string) bool {
		for _, name := range strings.Fields(above[a]) {
			if name == b {
				return true
			}
		}
		return b == object
	}
	array := func(depth int, name string) string {
		if depth == 0 {
			return name
		}
		return strings.Repeat("[", depth) + "L" + name + ";"
	}
	for a := range above {
		for b := range above {
			for depth := range 4 {
				for more := range 3 {
					under(t, w, array(depth, a), array(depth, b), isAbove(a, b))
					ofArrays := b == object || b == cloneable || b == serializable
					under(t, w, array(depth+1+more, a), array(depth, b), ofArrays)
					under(t, w, array(depth, a), array(depth+1+more, b), false)
				}
			}
			for _, values := range []string{"[I", "[[J", "[Z"} {
				under(t, w, array(1, a), values, false)
				under(t, w, a, values, false)
			}
		}
	}
}

func under(t *testing.T, w *World, a, b string, want bool) {
	t.Helper()
	if is, e := w.Under(a, b); is != want || e != api.OK {
		t.Errorf("Under(%q, %q) = %v, %d", a, b, is, e)
	}
}

func TestUnderOfValues(t *testing.T) {
	w := worldOf(t, newBuilt("I", object, openFace))
	kinds := strings.Split("BCDFIJSZ", "")
	for _, a := range kinds {
		for _, b := range kinds {
			under(t, w, "["+a, "["+b, a == b)
			under(t, w, "[[["+a, "[[["+b, a == b)
			under(t, w, "[["+a, "["+b, false)
			under(t, w, "["+a, "[["+b, false)
		}
		for b, want := range map[string]bool{object: true, cloneable: true, serializable: true, "I": false, "java/lang/String": false} {
			under(t, w, "["+a, b, want)
			under(t, w, "["+a, "[L"+b+";", false)
			under(t, w, "[["+a, "[L"+b+";", want)
			under(t, w, "[["+a, "[[L"+b+";", false)
			under(t, w, "[[["+a, "[L"+b+";", want)
			under(t, w, b, "["+a, false)
		}
	}
	deep := strings.Repeat("[", 255)
	under(t, w, deep+"I", deep+"I", true)
	under(t, w, deep+"I", deep[1:]+"Ljava/lang/Object;", true)
	under(t, w, deep+"I", deep+"Ljava/lang/Object;", false)
	under(t, w, deep+"LI;", deep+"Ljava/lang/Object;", true)
}

func TestUnderErrors(t *testing.T) {
	w := worldOf(t, newBuilt("A", object, open), newBuilt("Circle", "Circle", open), newBuilt("Change", "jvm/Out", open), newBuilt("q/H", object, hidden), newBuilt("Access", "q/H", open))
	wrong := map[string]api.Errno{"X": api.ErrNoClass, "[LX;": api.ErrNoClass, "[V": api.ErrNoClass, "": api.ErrNoClass, "I": api.ErrNoClass, "Circle": api.ErrCircle, "[[LCircle;": api.ErrCircle, "Change": api.ErrChange, "Access": api.ErrAccess}
	for a, first := range wrong {
		for _, right := range []string{"A", object, "[I", "[LA;", cloneable, "q/H"} {
			for _, names := range [][2]string{{a, right}, {right, a}} {
				if is, e := w.Under(names[0], names[1]); is || e != first {
					t.Errorf("Under(%q, %q) = %v, %d, want %d", names[0], names[1], is, e, first)
				}
			}
		}
		for b := range wrong {
			if is, e := w.Under(a, b); is || e != first {
				t.Errorf("Under(%q, %q) = %v, %d, want %d", a, b, is, e, first)
			}
		}
	}
}

// TestUnderLooks: at the second only if the first is right; and what it finds is kept.
func TestUnderLooks(t *testing.T) {
	w := worldOf(t, newBuilt("A", "Late", open), newBuilt("B", "Late", open), newBuilt("C", "Late", open))
	w.Under("X", "A")
	w.Under(object, "[LB;")
	w.Under("C", "A")
	define(t, w, newBuilt("Late", object, open))
	for name, want := range map[string]api.Errno{"A": api.OK, "B": api.ErrNoClass, "C": api.ErrNoClass} {
		loads(t, w, "since", name, want)
	}
	under(t, w, "A", "Late", true)
	if is, e := w.Under("B", "Late"); is || e != api.ErrNoClass {
		t.Errorf("Under = %v, %d", is, e)
	}
}
