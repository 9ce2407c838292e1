package link

import (
	"testing"

	"jvmcore/api"
)

// calls: what a Call of m()V must tell: a class, or an error.
type calls struct {
	from, class string
	face        bool
	thing, want string
}

func (c calls) check(t *testing.T, w *World, what string) {
	t.Helper()
	c.checkOf(t, w, what, "m")
}

func (c calls) checkOf(t *testing.T, w *World, what, name string) {
	t.Helper()
	if got := answer(w.Call(c.from, c.class, name, "()V", c.face, c.thing)); got != c.want {
		t.Errorf("%s: Call(%q, %q, %q, %v, %q) = %s, want %s", what, c.from, c.class, name, c.face, c.thing, got, c.want)
	}
}

// TestCallAgain: a method of p/A, which a class below has again: by the flags of both, in the same package and in another.
func TestCallAgain(t *testing.T) {
	all := []uint16{api.Public, api.Protected, 0, api.Private}
	for _, first := range all {
		for _, again := range all {
			for _, static := range []uint16{0, api.Static} {
				w := worldOf(t,
					newBuilt("p/A", object, open).method(first, "m", "()V"),
					newBuilt("p/B", "p/A", open).method(again|static, "m", "()V"), newBuilt("p/C", "p/B", open),
					newBuilt("q/B", "p/A", open).method(again|static, "m", "()V"), newBuilt("q/C", "q/B", open),
					newBuilt("p/D", "q/B", open).method(api.Public, "m", "()V"), newBuilt("q/D", "p/B", open).method(api.Public, "m", "()V"))
				takes := first != api.Private && again != api.Private && static == 0
				near, far, nearBelow, farBelow := "p/A", "p/A", "p/A", "p/A"
				if takes {
					near, nearBelow = "p/B", "p/B"
				}
				if takes && first != 0 {
					far = "q/B"
				}
				if first != api.Private {
					farBelow = "p/D"
				}
				if first == api.Public || first == api.Protected {
					nearBelow = "q/D"
				}
				for thing, want := range map[string]string{"p/A": "p/A", "p/B": near, "p/C": near, "q/B": far, "q/C": far, "p/D": farBelow, "q/D": nearBelow} {
					calls{"p/A", "p/A", false, thing, want}.check(t, w, "again")
				}
			}
		}
	}
}

// TestCallBelow: where a class below is referred to, that is what counts.
func TestCallBelow(t *testing.T) {
	w := worldOf(t, newBuilt("p/A", object, open).method(0, "m", "()V"), newBuilt("q/B", "p/A", open).method(0, "m", "()V"), newBuilt("p/C", "q/B", open).method(0, "m", "()V"), newBuilt("q/D", "p/C", open).method(0, "m", "()V"))
	for _, c := range []calls{
		{"p/A", "p/A", false, "p/A", "p/A"}, {"p/A", "p/A", false, "q/B", "p/A"}, {"p/A", "p/A", false, "p/C", "p/C"}, {"p/A", "p/A", false, "q/D", "p/C"},
		{"q/B", "q/B", false, "q/B", "q/B"}, {"q/B", "q/B", false, "p/C", "q/B"}, {"q/B", "q/B", false, "q/D", "q/D"},
		{"p/A", "p/C", false, "q/D", "p/C"}, {"q/B", "q/D", false, "q/D", "q/D"}, {"p/A", "q/B", false, "q/B", errorText(api.ErrAccess)},
	} {
		c.check(t, w, "below")
	}
}

// TestCallSkips: a Static or Private one of the same signature is passed over, and what is above it is looked at.
func TestCallSkips(t *testing.T) {
	for _, flags := range []uint16{api.Static, api.Private, api.Public | api.Static, api.Private | api.Static} {
		w := worldOf(t,
			newBuilt("I", object, openFace).method(faceMethod, "m", "()V"),
			newBuilt("A", object, open, "I").method(api.Public, "m", "()V"), newBuilt("B", "A", open).method(api.Public, "m", "()V"), newBuilt("C", "B", open).method(flags, "m", "()V"), newBuilt("D", "C", open),
			newBuilt("E", object, open, "I").method(flags, "m", "()V"))
		for thing, want := range map[string]string{"A": "A", "B": "B", "C": "B", "D": "B"} {
			calls{"X", "A", false, thing, want}.check(t, w, "skipped")
			calls{"X", "I", true, thing, want}.check(t, w, "skipped by an interface")
		}
		calls{"X", "I", true, "E", errorText(api.ErrAbstract)}.check(t, w, "there is no other")
		if flags&api.Static != 0 && flags&api.Private == 0 {
			calls{"X", "C", false, "C", errorText(api.ErrChange)}.check(t, w, "Static")
			calls{"X", "D", false, "D", errorText(api.ErrChange)}.check(t, w, "Static")
		}
		if flags == api.Private {
			calls{"C", "C", false, "D", "C"}.check(t, w, "Private")
			calls{"C", "D", false, "D", "C"}.check(t, w, "Private")
		}
	}
}

// TestCallFaces: an interface's method that the thing's class has, has not, has Abstract, and has not Public.
func TestCallFaces(t *testing.T) {
	w := worldOf(t,
		newBuilt("I", object, openFace).method(faceMethod, "m", "()V"), newBuilt("J", object, openFace, "I"),
		newBuilt("Has", object, open, "J").method(api.Public, "m", "()V"), newBuilt("Below", "Has", open),
		newBuilt("Without", object, open, "J"), newBuilt("Abstract", object, partial, "J").method(faceMethod, "m", "()V"), newBuilt("BelowAbstract", "Abstract", open), newBuilt("Other", "Abstract", partial).method(api.Public, "m", "()I"),
		newBuilt("Protected", "Abstract", open).method(api.Protected, "m", "()V"), newBuilt("Pack", object, open, "I").method(0, "m", "()V"), newBuilt("AbstractPack", object, partial, "I").method(api.Abstract, "m", "()V"),
		newBuilt("Above", object, open).method(api.Public, "m", "()V"), newBuilt("Late", "Above", open, "I"),
		newBuilt("PartOf", object, partial, "I"), newBuilt("PartPack", "PartOf", open).method(api.Protected, "m", "()V"), newBuilt("PartHas", "PartOf", open).method(api.Public, "m", "()V"),
		newBuilt("K", object, openFace).method(faceMethod, "m", "()V"))
	abstract, access, change := errorText(api.ErrAbstract), errorText(api.ErrAccess), errorText(api.ErrChange)
	for thing, want := range map[string]string{"Has": "Has", "Below": "Has", "Without": abstract, "Abstract": abstract, "BelowAbstract": abstract, "Other": abstract, "Protected": access, "I": abstract, "J": abstract} {
		if thing != "I" {
			calls{"X", "J", true, thing, want}.check(t, w, "an interface's")
		}
		calls{"X", "I", true, thing, want}.check(t, w, "an interface's")
	}
	for _, c := range []calls{
		{"X", "I", true, "Pack", access}, {"X", "I", true, "AbstractPack", abstract}, {"X", "I", true, "Late", "Above"}, {"X", "K", true, "Has", change}, {"X", "J", true, "Late", change}, {"X", "I", true, "[LHas;", change}, {"X", "I", true, "K", change},
		{"X", "PartOf", false, "PartPack", access}, {"X", "PartOf", false, "PartHas", "PartHas"}, {"X", "PartOf", false, "PartOf", abstract},
		{"X", "Abstract", false, "Protected", "Protected"}, {"X", "Abstract", false, "BelowAbstract", abstract}, {"X", "Pack", false, "Pack", "Pack"},
	} {
		c.check(t, w, "an interface's")
	}
}

// TestCallObject: the methods of java/lang/Object, of things and of arrays, through classes and interfaces.
func TestCallObject(t *testing.T) {
	w := worldOf(t, newBuilt("I", object, openFace), newBuilt("A", object, open, "I"), newBuilt("B", "A", open, "I").method(0, "wait", "()V"), newBuilt("C", object, open).method(api.Public|api.Native, "wait", "()V"), newBuilt("q/Hidden", object, hidden))
	for _, c := range []calls{
		{"X", object, false, "[I", object}, {"X", object, false, "[[LC;", object}, {"X", object, false, object, object}, {"X", object, false, "A", object}, {"X", object, false, "C", "C"}, {"X", object, false, "B", "B"}, {"X", object, false, "I", object},
		{"X", "[I", false, "[I", object}, {"X", "[LA;", false, "[LB;", object}, {"X", "[LB;", false, "[LA;", errorText(api.ErrChange)}, {"X", "[I", false, "[J", errorText(api.ErrChange)}, {"X", "[I", false, object, errorText(api.ErrChange)},
		{"X", "I", true, "A", object}, {"X", "I", true, "B", "B"}, {"X", "I", true, "C", errorText(api.ErrChange)}, {"X", cloneable, true, "[I", object}, {"X", serializable, true, "[[LA;", object}, {"X", cloneable, true, "A", errorText(api.ErrChange)},
		{"X", object, false, "q/Hidden", object}, {"X", object, false, "[Lq/Hidden;", object},
	} {
		c.checkOf(t, w, "wait", "wait")
	}
	calls{"X", object, false, "A", object}.checkOf(t, w, "as of any other", "<init>")
	calls{"X", "java/lang/Thread", false, "java/lang/Thread", errorText(api.ErrChange)}.checkOf(t, w, "Static", "yield")
}

// TestCallErrors: each alone and with the next: the error of Method, of Under (of the thing first), ErrChange, ErrAbstract, ErrAccess.
func TestCallErrors(t *testing.T) {
	w := worldOf(t,
		newBuilt("p/A", object, partial).method(faceMethod, "m", "()V").method(api.Public|api.Static, "s", "()V").method(api.Private, "x", "()V"),
		newBuilt("p/B", "p/A", open), newBuilt("p/Circle", "p/Circle", open), newBuilt("p/Other", object, open), newBuilt("p/I", object, openFace).method(faceMethod, "m", "()V"))
	for _, c := range []struct {
		name  string
		calls calls
	}{
		{"m", calls{"X", "Missing", false, "p/Circle", errorText(api.ErrNoClass)}},
		{"m", calls{"X", "p/Circle", false, "Missing", errorText(api.ErrCircle)}},
		{"none", calls{"X", "p/A", false, "Missing", errorText(api.ErrNoMethod)}},
		{"m", calls{"X", "p/A", true, "Missing", errorText(api.ErrChange)}},
		{"m", calls{"X", "p/B", false, "Missing", errorText(api.ErrAbstract)}},
		{"x", calls{"X", "p/A", false, "Missing", errorText(api.ErrAccess)}},
		{"x", calls{"X", "p/A", false, "p/Other", errorText(api.ErrAccess)}},
		{"m", calls{"X", "p/A", false, "Missing", errorText(api.ErrNoClass)}},
		{"m", calls{"X", "p/A", false, "", errorText(api.ErrNoClass)}},
		{"m", calls{"X", "p/A", false, "[V", errorText(api.ErrNoClass)}},
		{"m", calls{"X", "p/A", false, "p/Circle", errorText(api.ErrCircle)}},
		{"m", calls{"X", "p/A", false, "[Lp/Circle;", errorText(api.ErrCircle)}},
		{"s", calls{"X", "p/A", false, "p/Circle", errorText(api.ErrCircle)}},
		{"s", calls{"X", "p/A", false, "p/B", errorText(api.ErrChange)}},
		{"s", calls{"X", "p/A", false, "p/Other", errorText(api.ErrChange)}},
		{"m", calls{"X", "p/A", false, "p/Other", errorText(api.ErrChange)}},
		{"m", calls{"X", "p/I", true, "p/Other", errorText(api.ErrChange)}},
		{"m", calls{"X", "p/A", false, object, errorText(api.ErrChange)}},
		{"x", calls{"p/A", "p/A", false, "p/Other", errorText(api.ErrChange)}},
		{"x", calls{"p/A", "p/A", false, "p/B", "p/A"}},
		{"m", calls{"X", "p/A", false, "p/B", errorText(api.ErrAbstract)}},
	} {
		c.calls.checkOf(t, w, "errors", c.name)
	}
}

// TestCallTells: all of the member, as it is in the class that has it.
func TestCallTells(t *testing.T) {
	w := worldOf(t, newBuilt("A", object, open).method(api.Public, "m", "(J)V"), newBuilt("B", "A", open).method(api.Protected|api.Final|api.Synchronized, "m", "(J)V"))
	want := api.Member{Class: "B", Name: "m", Type: "(J)V", Flags: api.Protected | api.Final | api.Synchronized}
	if m, e := w.Call("q/X", "A", "m", "(J)V", false, "B"); m != want || e != api.OK {
		t.Errorf("Call = %v, %d", m, e)
	}
}
