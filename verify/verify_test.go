package verify

import (
	"testing"

	"jvmcore/api"
	"jvmcore/link"
)

func TestNoClass(t *testing.T) {
	w := worldOf(t, neighbours(t)...)
	for _, name := range []string{"", "None", "a//b", "[", "[I", "[[J", "[LA;", "[LNone;", "[Ljava/lang/Object;", "LA;", "I;", "\xff"} {
		if v := verdictOn(w, name); v != (verdict{api.ErrNoClass, -1, 0}) {
			t.Errorf("%q: %v", name, v)
		}
	}
}

func TestErrorsOfLoad(t *testing.T) {
	w := worldOf(t, neighbours(t)...)
	for name, e := range map[string]api.Errno{"Orphan": api.ErrNoClass, "OrphanFace": api.ErrNoClass, "Ring": api.ErrCircle, "Odd": api.ErrChange, "Blind": api.ErrAccess} {
		if v := verdictOn(w, name); v != (verdict{e, -1, 0}) {
			t.Errorf("%q: %v, want error %d", name, v, e)
		}
		if x := w.Load(name); x != e {
			t.Errorf("Load of %q behind Verify: %d, want %d", name, x, e)
		}
	}
}

// What is wrong above a class is told ahead of what is wrong in it.
func TestLoadComesFirst(t *testing.T) {
	b := newBuilt(t, "Low", "None", open)
	b.routine(api.Static, "m", "()V", 0, 0, ops(87))
	if v := judge(t, b); v != (verdict{api.ErrNoClass, -1, 0}) {
		t.Errorf("%v", v)
	}
}

func TestThereAtFirst(t *testing.T) {
	w := link.New()
	for _, name := range []string{"java/lang/Object", "java/lang/Cloneable", "java/io/Serializable", "java/lang/String", "java/lang/Thread", "jvm/Out", "java/lang/Throwable", "java/lang/Error", "java/lang/StackOverflowError"} {
		if v := verdictOn(w, name); v != fine {
			t.Errorf("%q: %v", name, v)
		}
	}
}

func TestNoCode(t *testing.T) {
	empty := newBuilt(t, "T", objectName, open)
	partial := newBuilt(t, "T", objectName, open|api.Abstract).bare(api.Abstract, "m", "()V").bare(api.Native|api.Static, "n", "(J)V")
	face := newBuilt(t, "T", objectName, openFace, "I").bare(api.Public|api.Abstract, "m", "()V")
	for _, b := range []*built{empty, partial, face} {
		if v := judge(t, b); v != fine {
			t.Errorf("%v", v)
		}
	}
}

// The first method that is wrong is told, by its number, with the first place that is wrong in it.
func TestFirstMethod(t *testing.T) {
	bad := func(b *built, name string) { b.routine(api.Static, name, "()V", 1, 0, ops(0, 87, 95), ret) }
	good := func(b *built, name string) { b.routine(api.Static, name, "()V", 0, 0, ret) }
	for _, c := range []struct {
		do   []func(b *built, name string)
		want verdict
	}{
		{[]func(b *built, name string){good, good}, fine},
		{[]func(b *built, name string){bad, bad}, verdict{api.ErrVerify, 0, 1}},
		{[]func(b *built, name string){good, bad, good}, verdict{api.ErrVerify, 1, 1}},
		{[]func(b *built, name string){good, good, bad, bad}, verdict{api.ErrVerify, 2, 1}},
	} {
		b := subject(t)
		for k, f := range c.do {
			f(b, string(rune('a'+k)))
		}
		if v := judge(t, b); v != c.want {
			t.Errorf("%v, want %v", v, c.want)
		}
	}
}

// A Final method above is told by its own number, ahead of code behind it, behind code ahead of it.
func TestFinalAndCode(t *testing.T) {
	for _, c := range []struct {
		first, last string
		number, at  int
	}{{ret, ret, 1, 0}, {ops(0, 87), ret, 0, 1}, {ret, ops(0, 87), 1, 0}} {
		up := newBuilt(t, "Up", objectName, open)
		up.routine(api.Public|api.Final, "m", "()V", 0, 1, ret)
		low := newBuilt(t, "Low", "Up", open)
		low.routine(api.Static, "a", "()V", 1, 1, c.first)
		low.routine(api.Public, "m", "()V", 1, 1, c.last)
		low.routine(api.Static, "z", "()V", 1, 1, c.last)
		if v := verdictOn(worldOf(t, up, low), "Low"); v != (verdict{api.ErrVerify, c.number, c.at}) {
			t.Errorf("%v, want method %d, place %d", v, c.number, c.at)
		}
	}
}

func TestFinal(t *testing.T) {
	const none = 0
	levels := []uint16{none, api.Public, api.Protected, api.Private}
	for _, up := range levels {
		for _, low := range levels {
			for _, upStatic := range []uint16{0, api.Static} {
				for _, lowStatic := range []uint16{0, api.Static} {
					for _, name := range []string{"p/Low", "q/Low", "Low", "p/r/Low"} {
						checkFinal(t, up|upStatic, low|lowStatic, name)
					}
				}
			}
		}
	}
}

func checkFinal(t *testing.T, up, low uint16, name string) {
	t.Helper()
	plain := low&(api.Static|api.Private) == 0 && up&(api.Static|api.Private) == 0
	same := name == "p/Low"
	clash := plain && (same || up&(api.Public|api.Protected) != 0)
	for _, final := range []uint16{0, api.Final} {
		want := fine
		if clash && final != 0 {
			want = verdict{api.ErrVerify, 0, 0}
		}
		above := newBuilt(t, "p/Up", objectName, open)
		above.routine(up|final, "m", "(I)J", 2, 2, ops(9, 173))
		middle := newBuilt(t, "m/Middle", "p/Up", open)
		for _, native := range []bool{false, true} {
			below := newBuilt(t, name, "m/Middle", open)
			if native {
				below.bare(low|api.Native, "m", "(I)J")
			} else {
				below.routine(low, "m", "(I)J", 2, 2, ops(9, 173))
			}
			if v := verdictOn(worldOf(t, above, middle, below), name); v != want {
				t.Errorf("above %#x, below %#x in %s: %v, want %v", up|final, low, name, v, want)
			}
		}
	}
}

// Of another name or descriptor, or <init>, it may be Final; and one that is not hides none that is.
func TestFinalOthers(t *testing.T) {
	up := newBuilt(t, "Up", objectName, open)
	up.routine(api.Public|api.Final, "m", "(I)V", 0, 2, ret)
	for _, c := range []struct{ name, of string }{{"n", "(I)V"}, {"m", "(J)V"}, {"m", "(I)I"}} {
		low := newBuilt(t, "Low", "Up", open)
		low.bare(api.Public|api.Native, c.name, c.of)
		if v := verdictOn(worldOf(t, up, low), "Low"); v != fine {
			t.Errorf("%s%s: %v", c.name, c.of, v)
		}
	}
	low := newBuilt(t, "Low", "Up", open|api.Abstract)
	low.bare(api.Public|api.Abstract, "m", "(I)V")
	if v := verdictOn(worldOf(t, up, low), "Low"); v != wrong(0) {
		t.Errorf("Abstract: %v", v)
	}
	top := newBuilt(t, "p/Top", objectName, open)
	top.routine(api.Final, "m", "()V", 0, 1, ret)
	middle := newBuilt(t, "q/Middle", "p/Top", open)
	middle.routine(api.Public, "m", "()V", 0, 1, ret)
	bottom := newBuilt(t, "p/Bottom", "q/Middle", open)
	bottom.routine(api.Public, "m", "()V", 0, 1, ret)
	w := worldOf(t, top, middle, bottom)
	if v := verdictOn(w, "q/Middle"); v != fine {
		t.Errorf("in another package: %v", v)
	}
	if v := verdictOn(w, "p/Bottom"); v != wrong(0) {
		t.Errorf("in the same package again: %v", v)
	}
}
