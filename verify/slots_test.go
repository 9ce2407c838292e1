package verify

import (
	"testing"

	"jvmcore/api"
)

// half: one of the slots of a value; part 0, or the second of a wide one, 1.
type half struct {
	api.VType
	part int
}

// halves: a stack, slot by slot.
func halves(l []api.VType) []half {
	var out []half
	for _, t := range l {
		out = append(out, half{t, 0})
		if t.Tag == 3 || t.Tag == 4 {
			out = append(out, half{t, 1})
		}
	}
	return out
}

// whole: the values of slots; false if one is cut.
func whole(l []half) ([]api.VType, bool) {
	var out []api.VType
	for k := 0; k < len(l); k++ {
		if l[k].part == 1 {
			return nil, false
		}
		out = append(out, l[k].VType)
		if l[k].Tag == 3 || l[k].Tag == 4 {
			k++
			if k == len(l) {
				return nil, false
			}
		}
	}
	return out, true
}

// shifted: what one of 87 to 95 makes of a stack; false if it can't be.
func shifted(op int, stack []api.VType) ([]api.VType, bool) {
	l := halves(stack)
	cuts := map[int][]int{87: {1}, 88: {2}, 89: {1, 0}, 90: {1, 1}, 91: {1, 2}, 92: {2, 0}, 93: {2, 1}, 94: {2, 2}, 95: {1, 1}}[op]
	var parts [][]half // from the top down
	for _, n := range cuts {
		if len(l) < n {
			return nil, false
		}
		part := l[len(l)-n:]
		if _, right := whole(part); !right {
			return nil, false
		}
		parts, l = append(parts, part), l[:len(l)-n]
	}
	order := [][]half{}
	switch {
	case op == 95:
		order = [][]half{parts[0], parts[1]}
	case op > 88:
		order = [][]half{parts[0], parts[1], parts[0]}
	}
	out := append([]half{}, l...)
	for _, part := range order {
		out = append(out, part...)
	}
	return whole(out)
}

// stacks: all of at most n values of these types.
func stacks(n int, kinds ...api.VType) [][]api.VType {
	out := [][]api.VType{nil}
	for from := 0; n > 0; n-- {
		end := len(out)
		for _, l := range out[from:end] {
			for _, t := range kinds {
				out = append(out, append(append([]api.VType{}, l...), t))
			}
		}
		from = end
	}
	return out
}

func TestShifts(t *testing.T) {
	for op := 87; op <= 95; op++ {
		for _, before := range stacks(4, intT, doubleT) {
			checkShift(t, op, before)
		}
		for _, before := range stacks(3, floatT, longT, topT, thisT) {
			checkShift(t, op, before)
		}
		checkShift(t, op, types(intT, floatT, nullT, anyT))
		checkShift(t, op, types(nullT, longT, anyT, floatT))
	}
}

func checkShift(t *testing.T, op int, before []api.VType) {
	t.Helper()
	after, right := shifted(op, before)
	b := subject(t)
	m := b.routine(api.Static, "m", "()V", max(width(before), width(after)), 0, ret, ops(byte(op)), ret)
	m.frames(onStack(1, before...), onStack(2, after...))
	want := fine
	if !right {
		want = wrong(1)
	}
	w := worldOf(t, newBuilt(t, "A", objectName, open))
	define(t, w, b)
	if v := verdictOn(w, "T"); v != want {
		t.Errorf("%d of %v to %v: %v, want %v", op, before, after, v, want)
	}
	if grows := width(after) > width(before); right && grows {
		m.Code.MaxStack--
		m.frames(onStack(1, before...))
		m.want("no room", wrong(1))
	}
}
