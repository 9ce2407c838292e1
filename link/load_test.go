package link

import (
	"strings"
	"testing"

	"jvmcore/api"
)

func loads(t *testing.T, w *World, what, name string, want api.Errno) {
	t.Helper()
	for range 2 {
		if e := w.Load(name); e != want {
			t.Errorf("%s: Load(%q) = %d, want %d", what, name, e, want)
		}
	}
}

func TestLoadNames(t *testing.T) {
	w := worldOf(t, newBuilt("A", object, open), newBuilt("p/q/A", object, hidden))
	for _, name := range []string{"A", "p/q/A", object} {
		for _, depth := range []int{0, 1, 2, 3, 255} {
			array := name
			if depth > 0 {
				array = strings.Repeat("[", depth) + "L" + name + ";"
			}
			loads(t, w, "a class", array, api.OK)
		}
		for _, wrong := range []string{"L" + name + ";", name + ";", "L" + name, "[" + name, "[L" + name, "[L" + name + ";;", "[" + name + ";", name + "/", "/" + name, name + "[]", " " + name, strings.Repeat("[", 256) + "L" + name + ";", "[L[L" + name + ";;"} {
			loads(t, w, "no name", wrong, api.ErrNoClass)
		}
	}
	for _, value := range strings.Split("BCDFIJSZ", "") {
		for _, depth := range []int{1, 2, 255} {
			loads(t, w, "values", strings.Repeat("[", depth)+value, api.OK)
		}
		loads(t, w, "a value", value, api.ErrNoClass)
		loads(t, w, "too deep", strings.Repeat("[", 256)+value, api.ErrNoClass)
		loads(t, w, "two values", "["+value+value, api.ErrNoClass)
	}
	for _, name := range []string{"", "/", "[", "[[", "[V", "[L;", "a//b", "a.b", "(I)V", "\x00", "\xff", "java/lang", "java/lang/object", "[X", "[LX;", "X"} {
		loads(t, w, "none", name, api.ErrNoClass)
	}
}

// TestLoadLater: that there is none is not kept, but what was found of one that is there is.
func TestLoadLater(t *testing.T) {
	w := worldOf(t, newBuilt("Below", "Late", open), newBuilt("Has", object, open, "LateFace"), newBuilt("Under", "Below", open), newBuilt("Untold", "Late", open), newBuilt("UntoldHas", object, open, "LateFace"))
	for _, name := range []string{"Late", "[LLate;", "LateFace", "[[LLateFace;"} {
		loads(t, w, "ahead", name, api.ErrNoClass)
	}
	loads(t, w, "ahead", "Under", api.ErrNoClass)
	loads(t, w, "ahead", "[LHas;", api.ErrNoClass)
	define(t, w, newBuilt("Late", object, open), newBuilt("LateFace", object, openFace))
	for _, name := range []string{"Late", "[LLate;", "LateFace", "[[LLateFace;", "Untold", "UntoldHas"} {
		loads(t, w, "behind", name, api.OK)
	}
	for _, name := range []string{"Below", "Has", "Under", "[LBelow;", "[LHas;"} {
		loads(t, w, "kept", name, api.ErrNoClass)
	}
	define(t, w, newBuilt("New", "Below", open), newBuilt("NewHas", object, open, "LateFace"))
	loads(t, w, "below one of which an error is kept", "New", api.ErrNoClass)
	loads(t, w, "beside one of which an error is kept", "NewHas", api.OK)
}

// TestLookedAtWhenNeeded: what comes behind the first error is not looked at; what comes ahead of it is.
func TestLookedAtWhenNeeded(t *testing.T) {
	w := worldOf(t,
		newBuilt("A", "B", open, "I", "J", "Missing", "K"), newBuilt("B", object, open), newBuilt("I", object, openFace), newBuilt("J", object, openFace, "LateJ"), newBuilt("K", object, openFace, "LateK"),
		newBuilt("C", "LateC", open, "L"), newBuilt("L", object, openFace, "LateL"))
	loads(t, w, "J is ahead of what is missing", "A", api.ErrNoClass)
	loads(t, w, "Super is missing", "C", api.ErrNoClass)
	define(t, w, newBuilt("LateJ", object, openFace), newBuilt("LateK", object, openFace), newBuilt("LateC", object, open), newBuilt("LateL", object, openFace))
	for name, want := range map[string]api.Errno{"J": api.ErrNoClass, "K": api.OK, "L": api.OK, "I": api.OK, "B": api.OK, "A": api.ErrNoClass, "C": api.ErrNoClass} {
		loads(t, w, "since", name, want)
	}
}

// aboves: classes to stand below of, each wrong in ways that its name tells, from the package p; and what is told of a class that is below it, or has it.
func aboves() ([]*built, []above) {
	l := []above{
		{"Missing", api.ErrNoClass, api.ErrNoClass},
		{"Wrong", api.ErrNoClass, api.ErrNoClass},
		{"WrongFinal", api.ErrNoClass, api.ErrNoClass},
		{"WrongFace", api.ErrNoClass, api.ErrNoClass},
		{"q/WrongHidden", api.ErrNoClass, api.ErrNoClass},
		{"q/WrongHiddenFace", api.ErrNoClass, api.ErrNoClass},
		{"Circle", api.ErrCircle, api.ErrCircle},
		{"CircleFace", api.ErrCircle, api.ErrCircle},
		{"Change", api.ErrChange, api.ErrChange},
		{"Access", api.ErrAccess, api.ErrAccess},
		{"q/AccessHiddenFinal", api.ErrAccess, api.ErrAccess},
		{"Final", api.ErrChange, api.ErrChange},
		{"q/HiddenFinal", api.ErrChange, api.ErrChange},
		{"Face", api.ErrChange, api.OK},
		{"q/HiddenFace", api.ErrChange, api.ErrAccess},
		{"p/HiddenFace", api.ErrChange, api.OK},
		{"Plain", api.OK, api.ErrChange},
		{"q/Hidden", api.ErrAccess, api.ErrChange},
		{"p/Hidden", api.OK, api.ErrChange},
		{"p/q/Hidden", api.ErrAccess, api.ErrChange},
		{"pp/Hidden", api.ErrAccess, api.ErrChange},
		{"Hidden", api.ErrAccess, api.ErrChange},
	}
	return []*built{
		newBuilt("Wrong", "Missing", open), newBuilt("WrongFinal", "Missing", shut), newBuilt("WrongFace", object, openFace, "Missing"),
		newBuilt("q/WrongHidden", "Missing", hidden), newBuilt("q/WrongHiddenFace", object, hideFace, "Missing"),
		newBuilt("Circle", "Circle", open), newBuilt("CircleFace", object, openFace, "CircleFace"),
		newBuilt("Change", "java/lang/String", open), newBuilt("Access", "q/Hidden", open), newBuilt("q/AccessHiddenFinal", "p/Hidden", api.Final),
		newBuilt("Final", object, shut), newBuilt("q/HiddenFinal", object, api.Final),
		newBuilt("Face", object, openFace), newBuilt("q/HiddenFace", object, hideFace), newBuilt("p/HiddenFace", object, hideFace),
		newBuilt("Plain", object, open), newBuilt("q/Hidden", object, hidden), newBuilt("p/Hidden", object, hidden), newBuilt("p/q/Hidden", object, hidden), newBuilt("pp/Hidden", object, hidden), newBuilt("Hidden", object, hidden),
	}, l
}

type above struct {
	name       string
	below, has api.Errno
}

// TestLoadInOrder: each thing that can be wrong with Super or with an interface, alone and with any other behind it.
func TestLoadInOrder(t *testing.T) {
	files, l := aboves()
	for _, a := range l {
		for _, b := range l {
			w := worldOf(t, files...)
			define(t, w, newBuilt("p/Below", a.name, open, "java/lang/Cloneable", b.name, "MissingToo"))
			want := api.ErrNoClass
			if b.has != api.OK {
				want = b.has
			}
			if a.below != api.OK {
				want = a.below
			}
			loads(t, w, "below "+a.name+", with "+b.name, "p/Below", want)
			if a == b {
				continue
			}
			define(t, w, newBuilt("p/Has", object, open, a.name, b.name))
			if want = a.has; want == api.OK {
				want = b.has
			}
			loads(t, w, "with "+a.name+" and "+b.name, "p/Has", want)
			loads(t, w, "arrays of it", "[[Lp/Has;", want)
		}
		w := worldOf(t, files...)
		define(t, w, newBuilt("p/Below", a.name, open), newBuilt("p/Has", object, open, a.name), newBuilt("p/FaceHas", object, openFace, a.name))
		loads(t, w, "below "+a.name, "p/Below", a.below)
		loads(t, w, "with "+a.name, "p/Has", a.has)
		loads(t, w, "an interface with "+a.name, "p/FaceHas", a.has)
		define(t, w, newBuilt("p/Under", "p/Below", open), newBuilt("p/HasToo", object, open, "p/FaceHas"))
		loads(t, w, "below what is below "+a.name, "p/Under", a.below)
		loads(t, w, "with what has "+a.name, "p/HasToo", a.has)
	}
}

// TestCircles: of one to three classes, through Super and through interfaces: whichever is asked first, all of them are told the same, and what is below.
func TestCircles(t *testing.T) {
	circles := map[string][]*built{
		"one":                     {newBuilt("A", "A", open)},
		"one interface":           {newBuilt("A", object, openFace, "A")},
		"one, its own interface":  {newBuilt("A", object, open, "A")},
		"two":                     {newBuilt("A", "B", open), newBuilt("B", "A", open)},
		"two interfaces":          {newBuilt("A", object, openFace, "B"), newBuilt("B", object, openFace, "A")},
		"two, both ways":          {newBuilt("A", "B", open), newBuilt("B", object, open, "A")},
		"two, behind others":      {newBuilt("A", "java/lang/Thread", open, "java/lang/Cloneable", "B"), newBuilt("B", object, openFace, "java/io/Serializable", "A")},
		"three":                   {newBuilt("A", "B", open), newBuilt("B", "C", open), newBuilt("C", "A", open)},
		"three interfaces":        {newBuilt("A", object, openFace, "B"), newBuilt("B", object, openFace, "C"), newBuilt("C", object, openFace, "A")},
		"three, one an interface": {newBuilt("A", "B", open), newBuilt("B", object, open, "C"), newBuilt("C", object, openFace, "A")},
		"final and hidden":        {newBuilt("A", "q/B", shut), newBuilt("q/B", "C", api.Final), newBuilt("C", "A", open)},
		"ahead of what is wrong":  {newBuilt("A", "B", open, "Missing"), newBuilt("B", "A", open, "Missing"), newBuilt("C", "A", open, "Missing")},
	}
	for what, l := range circles {
		for _, first := range l {
			w := worldOf(t, l...)
			define(t, w, newBuilt("Below", first.name, open), newBuilt("Has", object, open, first.name))
			loads(t, w, what, "[L"+first.name+";", api.ErrCircle)
			for _, name := range []string{first.name, "Below", "Has", l[0].name, l[len(l)-1].name, l[len(l)/2].name} {
				loads(t, w, what+" by "+first.name, name, api.ErrCircle)
			}
		}
		w := worldOf(t, l...)
		define(t, w, newBuilt("Below", l[0].name, open))
		loads(t, w, what+" from below", "Below", api.ErrCircle)
		for _, b := range l {
			loads(t, w, what+" from below", b.name, api.ErrCircle)
		}
	}
}

// TestNoCircle: what is come to again when it is looked at no more.
func TestNoCircle(t *testing.T) {
	w := worldOf(t, newBuilt("I", object, openFace), newBuilt("J", object, openFace, "I"), newBuilt("K", object, openFace, "I", "J"), newBuilt("A", object, open, "K", "J", "I"), newBuilt("B", "A", open, "I", "K"))
	loads(t, w, "many ways", "B", api.OK)
	w = worldOf(t, newBuilt("A", "B", open, "Missing"), newBuilt("B", object, open, "Missing", "A"))
	loads(t, w, "what is missing comes first", "A", api.ErrNoClass)
	loads(t, w, "what is missing comes first", "B", api.ErrNoClass)
}

// TestSelfBelow: a class in a package may be below one that is hidden there, whatever its own flags are.
func TestSelfBelow(t *testing.T) {
	w := worldOf(t, newBuilt("q/A", object, 0), newBuilt("q/B", "q/A", 0, "q/I"), newBuilt("q/I", object, hideFace), newBuilt("C", "q/B", 0))
	loads(t, w, "in the package", "q/B", api.OK)
	loads(t, w, "out of it", "C", api.ErrAccess)
}
