package verify

import (
	"fmt"
	"math/rand"
	"strings"
	"sync"
	"testing"

	"jvmcore/api"
	classfile "jvmcore/class"
	"jvmcore/link"
)

// passing: a class T in which code goes on from one class in a local to another, at 1.
func passing(t *testing.T, one, other string) *built {
	b := subject(t)
	b.routine(api.Static, "m", "(L"+one+";)V", 0, 1, ops(0), ret).takes(obj(one)).frames(inLocals(1, obj(other)))
	return b
}

// That a class is missing is not kept.
func TestDefinedLater(t *testing.T) {
	w := worldOf(t, append(neighbours(t), passing(t, "Late", "A"))...)
	for range 2 {
		if v := verdictOn(w, "T"); v != broken(api.ErrNoClass, 1) {
			t.Errorf("while it is missing: %v", v)
		}
	}
	define(t, w, newBuilt(t, "Late", "B", open))
	if v := verdictOn(w, "T"); v != fine {
		t.Errorf("when it is there: %v", v)
	}
}

// What was found of a class that is there is kept, as Load keeps it; what was not looked at is not.
func TestFoundOnce(t *testing.T) {
	w := worldOf(t, append(neighbours(t), passing(t, "Orphan", "A"))...)
	if v := verdictOn(w, "T"); v != broken(api.ErrNoClass, 1) {
		t.Errorf("what is above it is missing: %v", v)
	}
	define(t, w, newBuilt(t, "None", "A", open))
	if v := verdictOn(w, "T"); v != broken(api.ErrNoClass, 1) {
		t.Errorf("found once: %v", v)
	}
	if e := w.Load("Orphan"); e != api.ErrNoClass {
		t.Errorf("Load behind it: %d", e)
	}
	w = worldOf(t, append(neighbours(t), passing(t, "Orphan", "Orphan"), newBuilt(t, "Low", "Orphan", open))...)
	if v := verdictOn(w, "T"); v != fine {
		t.Errorf("the same is not looked at: %v", v)
	}
	define(t, w, newBuilt(t, "None", "A", open))
	if e := w.Load("Orphan"); e != api.OK {
		t.Errorf("Load of what was not looked at: %d", e)
	}
	if v := verdictOn(w, "Low"); v != fine {
		t.Errorf("below what was not looked at: %v", v)
	}
	w = worldOf(t, append(neighbours(t), passing(t, "Orphan", "A"), newBuilt(t, "None", "A", open))...)
	if v := verdictOn(w, "T"); v != fine {
		t.Errorf("all are there: %v", v)
	}
}

// The class itself is looked at as by Load, and what is found is kept.
func TestFoundOfItself(t *testing.T) {
	low := newBuilt(t, "Low", "Late", open)
	low.routine(api.Static, "m", "()V", 0, 0, ret)
	w := worldOf(t, low)
	if v := verdictOn(w, "Low"); v != (verdict{api.ErrNoClass, -1, 0}) {
		t.Errorf("%v", v)
	}
	define(t, w, newBuilt(t, "Late", objectName, open))
	if v := verdictOn(w, "Low"); v != (verdict{api.ErrNoClass, -1, 0}) {
		t.Errorf("found once: %v", v)
	}
}

// answers: of all calls of a world, in one text.
func answers(w *link.World) string {
	var s strings.Builder
	names := []string{"A", "B", "I", "T", "Orphan", "Ring", "Odd", "Blind", "[LB;", "None", throwableName}
	for _, a := range names {
		l, e := w.Layout(a)
		fmt.Fprintln(&s, a, w.Load(a), l, e)
		for _, b := range names {
			under, e := w.Under(a, b)
			m, x := w.Method(a, b, "f", "()V", false)
			c, y := w.Call(a, b, "notify", "()V", false, a)
			f, z := w.Field(a, b, "x", "I")
			fmt.Fprintln(&s, b, under, e, m, x, c, y, f, z)
		}
	}
	return s.String()
}

// Other calls tell the same whether a class is verified among them or not, and so does Verify.
func TestAmongOtherCalls(t *testing.T) {
	build := func() *link.World {
		return worldOf(t, append(neighbours(t), passing(t, "B", "A"), newBuilt(t, "V", "T", open))...)
	}
	plain, mixed := build(), build()
	want := answers(plain)
	if v := verdictOn(mixed, "T"); v != fine {
		t.Errorf("%v", v)
	}
	if got := answers(mixed); got != want {
		t.Errorf("behind Verify:\n%s\nwithout:\n%s", got, want)
	}
	for _, name := range []string{"T", "V", "A", "Ring"} {
		if a, b := verdictOn(plain, name), verdictOn(mixed, name); a != b {
			t.Errorf("%s: %v, and %v", name, a, b)
		}
	}
}

// Any number of worlds may be in use at once, each with its own classes of a name.
func TestWorldsApart(t *testing.T) {
	var l []*link.World
	for k := range 16 {
		pair := [][2]string{{"B", "A"}, {"A", "B"}, {"A", "None"}, {"A", "Ring"}}[k%4]
		l = append(l, worldOf(t, append(neighbours(t), passing(t, pair[0], pair[1]))...))
	}
	want := []verdict{fine, wrong(1), broken(api.ErrNoClass, 1), broken(api.ErrCircle, 1)}
	got := make([]verdict, len(l))
	var g sync.WaitGroup
	for k, w := range l {
		g.Go(func() {
			for range 20 {
				got[k] = verdictOn(w, "T")
			}
		})
	}
	g.Wait()
	for k, v := range got {
		if v != want[k%4] {
			t.Errorf("world %d: %v, want %v", k, v, want[k%4])
		}
	}
}

// wholeVerdict: what the model tells of a class.
func (m *model) wholeVerdict(name string, file api.Class) verdict {
	m.file = file
	m.supers[name] = m.className(int(file.Super))
	m.faces[name] = file.Flags&api.Interface != 0
	if e := m.w.Load(name); e != api.OK {
		return verdict{e, -1, 0}
	}
	for k, x := range file.Methods {
		if !x.HasCode {
			continue
		}
		if e, at := m.verify(file, k); e != api.OK {
			return verdict{e, k, at}
		}
	}
	return fine
}

// From its bytes on: whatever is made another in them, the class is refused by Define, or Verify tells what the model tells.
func TestBytesMadeOthers(t *testing.T) {
	r := rand.New(rand.NewSource(11))
	told := map[api.Errno]int{}
	for range 100 {
		near := neighbours(t)
		w := newWriter(t, r, worldOf(t, near...), near)
		w.write(3 + r.Intn(20))
		w.finish()
		s := w.bytes()
		for range 60 {
			b := []byte(s)
			b[r.Intn(len(b))] = byte(r.Intn(256) >> r.Intn(8))
			told[checkBytes(t, string(b), near)]++
		}
	}
	if told[api.OK] < 100 || told[api.ErrVerify] < 100 {
		t.Errorf("too few of some: %v", told)
	}
}

// checkBytes: what Verify tells of a class of these; -1 if Define does not take it.
func checkBytes(t *testing.T, s string, near []*built) api.Errno {
	t.Helper()
	file, e, _ := classfile.Read(s)
	if e != api.OK {
		return -1
	}
	if e, _, _, _ := classfile.Check(file); e != api.OK {
		return -1
	}
	w, other := worldOf(t, near...), worldOf(t, near...)
	name, e := w.Define(s)
	if e != api.OK {
		return -1
	}
	other.Define(s)
	want := newModel(other, near...).wholeVerdict(name, file)
	if v := verdictOn(w, name); v != want {
		t.Errorf("%x: %v, the model tells %v", s, v, want)
	}
	return want.e
}

// Every call ends, and soon, at code of the greatest length: frames at each place, many locals, handlers over all.
func TestGreatCode(t *testing.T) {
	const n = 65000
	b := subject(t)
	of := "(" + strings.Repeat("LA;", 50) + ")V"
	m := b.routine(api.Static, "m", of, 65535, 65535, strings.Repeat("\x00", n), ret, ops(1, 191))
	for range 50 {
		m.takes(obj("A"))
	}
	// as many frames, all as at first, and at the last what is caught
	m.Code.Map = ops(byte((n+2)>>8), byte((n+2)&255)) + strings.Repeat("\x00", n+1) + ops(64) + with(7, b.class(throwableName))
	for range 4 {
		m.catch(0, n, n+1, "")
	}
	m.want("great", fine)
	m.catch(0, n, n, "").want("the last handler", wrong(0))
}

// Classes may stand above each other in any number.
func TestDeepClasses(t *testing.T) {
	const n = 3000
	w := link.New()
	above := objectName
	for k := range n {
		name := fmt.Sprint("D", k)
		define(t, w, newBuilt(t, name, above, open))
		above = name
	}
	b := newBuilt(t, "T", above, open)
	b.routine(api.Static, "m", "("+strings.Repeat("LT;", 50)+")V", 0, 50, ops(0), ret)
	m := b.methods[0]
	var low, high []api.VType
	for range 50 {
		low, high = append(low, obj("T")), append(high, obj("D0"))
	}
	m.takes(low...).frames(inLocals(1, high...))
	define(t, w, b)
	if v := verdictOn(w, "T"); v != fine {
		t.Errorf("%v", v)
	}
}
