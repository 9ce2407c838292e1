package verify

import (
	"testing"

	"jvmcore/api"
)

// slotTypes: locals, one for each of n slots.
func slotTypes(n int, l ...api.VType) []api.VType {
	var out []api.VType
	for _, h := range halves(l) {
		if h.part == 1 {
			h.VType = topT
		}
		out = append(out, h.VType)
	}
	for len(out) < n {
		out = append(out, topT)
	}
	return out
}

// forms: the bytes of an instruction on a local, in each form that it has: of is 0 to 4: Int, Int64, Float32, Float64, references.
func forms(far, near byte, of, k int) []string {
	l := []string{ops(far+byte(of), byte(k)), ops(196, far+byte(of), 0, byte(k))}
	if k < 4 {
		l = append(l, ops(near+byte(4*of+k)))
	}
	return l
}

// isOf: is a local of such a type?
func isOf(x api.VType, of int) bool {
	if of == 4 {
		return x.Tag >= 5
	}
	return x == types(intT, longT, floatT, doubleT)[of]
}

func TestLoads(t *testing.T) {
	locals := types(topT, intT, longT, floatT, doubleT, nullT, thisT, obj("None"), fresh(0))
	each := slotTypes(11, locals...)
	for of := range 5 {
		for k := range 10 {
			for _, code := range forms(21, 26, of, k) {
				b := subject(t)
				m := b.routine(api.Static, "m", "()V", 3, 11, with(187, b.class("A")), ret, code, ret)
				after := 4 + len(code)
				m.frames(api.Frame{At: 4, Locals: locals, Stack: types(intT)}, api.Frame{At: after, Locals: locals, Stack: types(intT, each[k])})
				want := fine
				if !isOf(each[k], of) {
					want = wrong(4)
				}
				m.want("load", want)
				if width(types(each[k])) == 2 && want == fine {
					m.Code.MaxStack = 2
					m.frames(api.Frame{At: 4, Locals: locals, Stack: types(intT)})
					m.want("load without room", wrong(4))
				}
			}
		}
	}
}

// stored: what a store makes of locals, slot by slot.
func stored(each []api.VType, k int, x api.VType) []api.VType {
	out := append([]api.VType{}, each...)
	if k > 0 && width(out[k-1:k]) == 2 {
		out[k-1] = topT
	}
	out[k] = x
	if width(types(x)) == 2 {
		out[k+1] = topT
	}
	return out
}

func TestStores(t *testing.T) {
	for _, before := range [][]api.VType{
		{intT, intT, intT, intT, intT}, {longT, longT, intT}, {intT, longT, doubleT}, {doubleT, floatT, longT}, {}, {nullT, anyT}, {intT, intT, intT, longT}, {intT, doubleT},
	} {
		for of, x := range types(intT, longT, floatT, doubleT, nullT) {
			for k := range 6 - width(types(x)) {
				after := stored(slotTypes(5, before...), k, x)
				for _, code := range forms(54, 59, of, k) {
					checkStore(t, before, x, code, after)
				}
			}
		}
	}
}

// checkStore: each local is afterwards what it must be, and nothing else.
func checkStore(t *testing.T, before []api.VType, x api.VType, code string, after []api.VType) {
	t.Helper()
	at := 1 + len(code)
	for k := range after {
		for _, demanded := range types(intT, longT, floatT, doubleT, anyT) {
			if k+width(types(demanded)) > len(after) {
				continue
			}
			b := subject(t)
			m := b.routine(api.Static, "m", "()V", 3, 5, ret, code, ret)
			locals := append(slotTypes(k)[:k:k], demanded)
			m.frames(api.Frame{At: 1, Locals: before, Stack: types(intT, x)}, api.Frame{At: at, Locals: locals, Stack: types(intT)})
			want := fine
			if !fits(after[k], demanded) {
				want = wrong(at)
			}
			w := worldOf(t, newBuilt(t, "A", objectName, open))
			define(t, w, b)
			if v := verdictOn(w, "T"); v != want {
				t.Errorf("%x of %v: local %d as %v: %v, want %v", code, before, k, demanded, v, want)
			}
		}
	}
}

// What is stored must be of the kind that is told; any reference can be.
func TestStoredKinds(t *testing.T) {
	for of := range 5 {
		for _, x := range types(topT, intT, longT, floatT, doubleT, nullT, thisT, obj("None"), obj("[I"), fresh(0)) {
			for _, code := range forms(54, 59, of, 2) {
				b := subject(t)
				m := b.routine(api.Static, "m", "()V", 2, 4, with(187, b.class("A")), ret, code, ret)
				m.frames(onStack(4, x), inLocals(4+len(code), topT, topT, x))
				want := fine
				if !isOf(x, of) {
					want = wrong(4)
				}
				m.want("store", want)
				m.frames(inLocals(4))
				m.want("store of nothing", wrong(4))
			}
		}
	}
}

// 132 needs an Int in its local, and leaves all as it is.
func TestIncrement(t *testing.T) {
	for k, x := range types(intT, longT, topT, floatT, nullT, intT) {
		for _, code := range []string{ops(132, byte(k), 1), ops(196, 132, 0, byte(k), 1, 2)} {
			locals := types(intT, longT, floatT, nullT, intT)
			m := static(t, 0, 6, ret, code, ret)
			m.frames(inLocals(1, locals...), inLocals(1+len(code), locals...))
			want := wrong(1)
			if x == intT {
				want = fine
			}
			m.want("132", want)
		}
	}
}

func TestArrays(t *testing.T) {
	of := []string{"I", "J", "F", "D", "L[", "BZ", "C", "S"}
	arrays := []string{"[I", "[J", "[F", "[D", "[B", "[Z", "[C", "[S", "[LNone;", "[[I", "[[LNone;", "[Ljava/lang/Object;"}
	values := types(intT, longT, floatT, doubleT, nullT, intT, intT, intT)
	for k := range 8 {
		for _, name := range arrays {
			right := false
			for _, sign := range of[k] {
				right = right || rune(name[1]) == sign
			}
			want := wrong(1)
			if right {
				want = fine
			}
			static(t, 4, 0, ret, ops(46+byte(k)), ret).frames(onStack(1, obj(name), intT)).want("load from "+name, want)
			static(t, 4, 0, ret, ops(79+byte(k)), ret).frames(onStack(1, obj(name), intT, values[k])).want("store into "+name, want)
		}
		static(t, 4, 0, ret, ops(79+byte(k)), ret).frames(onStack(1, nullT, intT, values[k])).want("store into Null", fine)
		given := types(intT, longT, floatT, doubleT, nullT, intT, intT, intT)[k]
		static(t, 4, 0, ret, ops(46+byte(k)), ret).frames(onStack(1, nullT, intT), onStack(2, given)).want("load from Null", fine)
		for _, x := range types(intT, thisT, obj("A"), anyT, obj("Iffy"), topT, longT) {
			static(t, 5, 0, ret, ops(46+byte(k)), ret).frames(onStack(1, x, intT)).want("load from none", wrong(1))
			static(t, 5, 0, ret, ops(79+byte(k)), ret).frames(onStack(1, x, intT, values[k])).want("store into none", wrong(1))
		}
	}
	for _, name := range arrays {
		static(t, 1, 0, ret, ops(190), ret).frames(onStack(1, obj(name)), onStack(2, intT)).want("length of "+name, fine)
	}
	for _, x := range types(intT, thisT, obj("A"), anyT, topT, floatT) {
		static(t, 1, 0, ret, ops(190), ret).frames(onStack(1, x)).want("length of none", wrong(1))
	}
	static(t, 1, 0, ret, ops(190), ret).frames(onStack(1, nullT), onStack(2, intT)).want("length of Null", fine)
	// of Null comes Null, which is an array of anything again
	static(t, 2, 0, ops(1, 3, 50, 3, 46, 87), ret).want("Null in Null", fine)
	// what comes to an array of references must be an Object, of whatever class
	for _, x := range types(nullT, obj("None"), obj("[I"), anyT, obj("I")) {
		static(t, 3, 0, ret, ops(83), ret).frames(onStack(1, obj("[LA;"), intT, x)).want("83", fine)
	}
	for _, x := range types(intT, topT, thisT, floatT) {
		static(t, 3, 0, ret, ops(83), ret).frames(onStack(1, obj("[LA;"), intT, x)).want("83", wrong(1))
	}
}
