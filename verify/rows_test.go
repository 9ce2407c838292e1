package verify

import (
	"fmt"
	"strings"
	"testing"

	"jvmcore/api"
)

// row: what an instruction takes and gives.
type row struct {
	what         string
	code         func(b *built) string
	takes, gives []api.VType
}

// plain: an instruction without operands, or with these.
func plain(bytes ...byte) func(b *built) string {
	return func(*built) string { return ops(bytes...) }
}

// kinds: types by letters.
func kinds(s string) []api.VType {
	var l []api.VType
	for _, x := range strings.Fields(s) {
		switch x {
		case "I":
			l = append(l, intT)
		case "J":
			l = append(l, longT)
		case "F":
			l = append(l, floatT)
		case "D":
			l = append(l, doubleT)
		case "N":
			l = append(l, nullT)
		default:
			l = append(l, obj(x))
		}
	}
	return l
}

// width: how many slots these take.
func width(l []api.VType) int {
	n := 0
	for _, t := range l {
		n++
		if t.Tag == 3 || t.Tag == 4 {
			n++
		}
	}
	return n
}

// room: of the stack that a row needs, with one slot beneath.
func (r row) room() int { return 1 + max(width(r.takes), width(r.gives)) }

// trial: the verdict where the first list is on the stack, and behind the instruction the second must be. Beneath lies an Int. Behind it all a thing is made, at a place that is told.
func (r row) trial(t *testing.T, takes, gives []api.VType, stack int) verdict {
	t.Helper()
	b := subject(t)
	code := r.code(b)
	m := b.routine(api.Static, "m", "()V", stack, 4, ret, code, ret, with(187, b.class("A")), ret)
	next := 1 + len(code)
	beneath := func(l []api.VType) []api.VType { return append(types(intT), l...) }
	m.frames(onStack(1, beneath(takes)...), onStack(next, beneath(gives)...), inLocals(next+1))
	w := worldOf(t, newBuilt(t, "A", objectName, open))
	define(t, w, b)
	return verdictOn(w, b.name)
}

// made: the place at which a thing is made.
func (r row) made(t *testing.T) int { return 2 + len(r.code(subject(t))) }

// fits: as the document says, where no class is looked at but java/lang/Object.
func fits(one, other api.VType) bool {
	switch {
	case one == other, other.Tag == 0:
		return true
	case other.Tag != 7:
		return false
	}
	return one.Tag == 5 || one.Tag == 7 && other.Name == "java/lang/Object"
}

// misfit: what is told where one does not fit the other: a class that is missing is looked for, where a class comes to it.
func misfit(one, other api.VType) verdict {
	if one.Tag == 7 && (other == obj("Some") || other == obj("None")) {
		return broken(api.ErrNoClass, 1)
	}
	return wrong(1)
}

// others: one of each kind.
func (r row) others(t *testing.T) []api.VType {
	return types(topT, intT, floatT, doubleT, longT, nullT, thisT, anyT, fresh(r.made(t)))
}

// replaced: a list with another type at a place.
func replaced(l []api.VType, k int, x api.VType) []api.VType {
	out := append([]api.VType{}, l...)
	out[k] = x
	return out
}

func (r row) check(t *testing.T) {
	t.Helper()
	next := 1 + len(r.code(subject(t)))
	expect := func(what string, got, want verdict) {
		t.Helper()
		if got != want {
			t.Errorf("%s: %s: %v, want %v", r.what, what, got, want)
		}
	}
	room := r.room()
	expect("right", r.trial(t, r.takes, r.gives, room), fine)
	for k := range r.takes {
		for _, x := range r.others(t) {
			if !fits(x, r.takes[k]) {
				expect(fmt.Sprintf("%v instead of %v", x, r.takes[k]), r.trial(t, replaced(r.takes, k, x), r.gives, 1+room), misfit(x, r.takes[k]))
			}
		}
	}
	if len(r.takes) > 0 {
		expect("one more beneath", r.trial(t, append(types(intT), r.takes...), append(types(intT), r.gives...), 1+room), fine)
	}
	for k := range r.gives {
		for _, x := range r.others(t) {
			if !fits(r.gives[k], x) {
				expect(fmt.Sprintf("%v given as %v", r.gives[k], x), r.trial(t, r.takes, replaced(r.gives, k, x), 1+room), wrong(next))
			}
		}
	}
	expect("more than it gives", r.trial(t, r.takes, append(types(intT), r.gives...), 1+room), wrong(next))
	if len(r.gives) > 0 {
		expect("less than it gives", r.trial(t, r.takes, r.gives[1:], room), wrong(next))
	}
	switch {
	case room == 1:
	case width(r.gives) > width(r.takes):
		expect("no room", r.trial(t, r.takes, nil, room-1), wrong(1))
	default:
		expect("no room", r.trial(t, r.takes, r.gives, room-1), broken(api.ErrMap, 0))
	}
}

// empty: an instruction needs its values, each of them: with fewer on the stack, and nothing beneath, it is wrong.
func (r row) checkEmpty(t *testing.T) {
	t.Helper()
	for n := range len(r.takes) {
		b := subject(t)
		m := b.routine(api.Static, "m", "()V", 1+r.room(), 4, ret, r.code(b), ret)
		m.frames(onStack(1, r.takes[len(r.takes)-n:]...))
		if v := judge(t, b); v != wrong(1) {
			t.Errorf("%s with the last %d: %v", r.what, n, v)
		}
	}
}

// plainRows: of instructions without operands: numbers from, to; what they take; what they give.
func plainRows() []row {
	var l []row
	for _, c := range []struct {
		from, to     int
		takes, gives string
	}{
		{0, 0, "", ""}, {1, 1, "", "N"}, {2, 8, "", "I"}, {9, 10, "", "J"}, {11, 13, "", "F"}, {14, 15, "", "D"},
		{46, 46, "[I I", "I"}, {47, 47, "[J I", "J"}, {48, 48, "[F I", "F"}, {49, 49, "[D I", "D"}, {50, 50, "[LNone; I", "None"}, {50, 50, "[[I I", "[I"}, {50, 50, "[[[LNone; I", "[[LNone;"}, {51, 51, "[B I", "I"}, {51, 51, "[Z I", "I"}, {52, 52, "[C I", "I"}, {53, 53, "[S I", "I"},
		{50, 50, "[Ljava/lang/Object; I", "java/lang/Object"},
		{79, 79, "[I I I", ""}, {80, 80, "[J I J", ""}, {81, 81, "[F I F", ""}, {82, 82, "[D I D", ""}, {83, 83, "[LNone; I java/lang/Object", ""}, {83, 83, "[[I I java/lang/Object", ""}, {84, 84, "[B I I", ""}, {84, 84, "[Z I I", ""}, {85, 85, "[C I I", ""}, {86, 86, "[S I I", ""},
		{96, 96, "I I", "I"}, {97, 97, "J J", "J"}, {98, 98, "F F", "F"}, {99, 99, "D D", "D"},
		{100, 100, "I I", "I"}, {101, 101, "J J", "J"}, {102, 102, "F F", "F"}, {103, 103, "D D", "D"},
		{104, 104, "I I", "I"}, {105, 105, "J J", "J"}, {106, 106, "F F", "F"}, {107, 107, "D D", "D"},
		{108, 108, "I I", "I"}, {109, 109, "J J", "J"}, {110, 110, "F F", "F"}, {111, 111, "D D", "D"},
		{112, 112, "I I", "I"}, {113, 113, "J J", "J"}, {114, 114, "F F", "F"}, {115, 115, "D D", "D"},
		{116, 116, "I", "I"}, {117, 117, "J", "J"}, {118, 118, "F", "F"}, {119, 119, "D", "D"},
		{120, 120, "I I", "I"}, {121, 121, "J I", "J"}, {122, 122, "I I", "I"}, {123, 123, "J I", "J"}, {124, 124, "I I", "I"}, {125, 125, "J I", "J"},
		{126, 126, "I I", "I"}, {127, 127, "J J", "J"}, {128, 128, "I I", "I"}, {129, 129, "J J", "J"}, {130, 130, "I I", "I"}, {131, 131, "J J", "J"},
		{133, 133, "I", "J"}, {134, 134, "I", "F"}, {135, 135, "I", "D"}, {136, 136, "J", "I"}, {137, 137, "J", "F"}, {138, 138, "J", "D"},
		{139, 139, "F", "I"}, {140, 140, "F", "J"}, {141, 141, "F", "D"}, {142, 142, "D", "I"}, {143, 143, "D", "J"}, {144, 144, "D", "F"},
		{145, 147, "I", "I"}, {148, 148, "J J", "I"}, {149, 150, "F F", "I"}, {151, 152, "D D", "I"},
		{190, 190, "[I", "I"}, {190, 190, "[LNone;", "I"}, {190, 190, "[[D", "I"},
	} {
		for op := c.from; op <= c.to; op++ {
			l = append(l, row{fmt.Sprint(op), plain(byte(op)), kinds(c.takes), kinds(c.gives)})
		}
	}
	return l
}

// poolRows: of instructions with operands.
func poolRows() []row {
	constant := func(op byte, c api.Const) func(b *built) string {
		return func(b *built) string {
			if c.Tag == api.StringRef {
				c.A = b.text("some")
			}
			k := b.constant(c)
			if op == 18 {
				return ops(op, byte(k))
			}
			return with(op, k)
		}
	}
	member := func(op byte, tag uint8, class, name, of string, more ...byte) func(b *built) string {
		return func(b *built) string { return with(op, b.ref(tag, class, name, of)) + ops(more...) }
	}
	class := func(op byte, name string, more ...byte) func(b *built) string {
		return func(b *built) string { return with(op, b.class(name)) + ops(more...) }
	}
	l := []row{
		{"16", plain(16, 7), nil, kinds("I")}, {"17", plain(17, 1, 7), nil, kinds("I")},
		{"18 Integer", constant(18, api.Const{Tag: api.Integer, Bits: 7}), nil, kinds("I")},
		{"18 Float", constant(18, api.Const{Tag: api.Float, Bits: 7}), nil, kinds("F")},
		{"18 String", constant(18, api.Const{Tag: api.StringRef}), nil, kinds("java/lang/String")},
		{"19 Integer", constant(19, api.Const{Tag: api.Integer, Bits: 7}), nil, kinds("I")},
		{"19 Float", constant(19, api.Const{Tag: api.Float, Bits: 7}), nil, kinds("F")},
		{"19 String", constant(19, api.Const{Tag: api.StringRef}), nil, kinds("java/lang/String")},
		{"20 Long", constant(20, api.Const{Tag: api.Long, Bits: 7}), nil, kinds("J")},
		{"20 Double", constant(20, api.Const{Tag: api.Double, Bits: 7}), nil, kinds("D")},
		{"189", class(189, "None"), kinds("I"), kinds("[LNone;")},
		{"189 of an array", class(189, "[I"), kinds("I"), kinds("[[I")},
		{"189 of many", class(189, strings.Repeat("[", 254)+"LNone;"), kinds("I"), kinds(strings.Repeat("[", 255) + "LNone;")},
		{"192", class(192, "None"), kinds("java/lang/Object"), kinds("None")},
		{"192 to an array", class(192, "[LNone;"), kinds("java/lang/Object"), kinds("[LNone;")},
		{"193", class(193, "None"), kinds("java/lang/Object"), kinds("I")},
		{"197", class(197, "[[LNone;", 1), kinds("I"), kinds("[[LNone;")},
		{"197 of two", class(197, "[[LNone;", 2), kinds("I I"), kinds("[[LNone;")},
		{"197 of all", class(197, strings.Repeat("[", 255)+"J", 255), kinds(strings.Repeat("I ", 255)), kinds(strings.Repeat("[", 255) + "J")},
	}
	for k, name := range strings.Fields("[Z [C [F [D [B [S [I [J") {
		l = append(l, row{"188 " + name, plain(188, byte(4+k)), kinds("I"), kinds(name)})
	}
	for of, kind := range map[string]string{"B": "I", "C": "I", "S": "I", "Z": "I", "I": "I", "J": "J", "F": "F", "D": "D", "LNone;": "None", "[I": "[I", "[[LNone;": "[[LNone;"} {
		l = append(l,
			row{"178 " + of, member(178, api.FieldRef, "None", "f", of), nil, kinds(kind)},
			row{"179 " + of, member(179, api.FieldRef, "None", "f", of), kinds(kind), nil},
			row{"180 " + of, member(180, api.FieldRef, "Some", "f", of), kinds("Some"), kinds(kind)},
			row{"180 of an array, " + of, member(180, api.FieldRef, "[LSome;", "f", of), kinds("[LSome;"), kinds(kind)},
			row{"182 gives " + of, member(182, api.MethodRef, "Some", "f", "(J)"+of), kinds("Some J"), kinds(kind)},
			row{"184 takes " + of, member(184, api.MethodRef, "Some", "f", "(I"+of+")V"), kinds("I " + kind), nil},
			row{"184 gives " + of, member(184, api.MethodRef, "Some", "f", "()"+of), nil, kinds(kind)},
			row{"185 gives " + of, member(185, api.InterfaceRef, "Some", "f", "(I)"+of, 2, 0), kinds("Some I"), kinds(kind)},
		)
	}
	return append(l,
		row{"184", member(184, api.MethodRef, "Some", "f", "(IJLNone;[IFD)V"), kinds("I J None [I F D"), nil},
		row{"182 of an array", member(182, api.MethodRef, "[I", "f", "()V"), kinds("[I"), nil},
		row{"182", member(182, api.MethodRef, "Some", "f", "(DLNone;)LOther;"), kinds("Some D None"), kinds("Other")},
		row{"185", member(185, api.InterfaceRef, "Some", "f", "(DLNone;)LOther;", 4, 0), kinds("Some D None"), kinds("Other")},
		row{"181 of a wide one", member(181, api.FieldRef, "Some", "f", "J"), kinds("Some J"), nil},
		row{"183 of T", member(183, api.MethodRef, "T", "f", "(IJ)F"), kinds("T I J"), kinds("F")},
		row{"183 of what is above", member(183, api.MethodRef, "A", "f", "(IJ)F"), kinds("T I J"), kinds("F")},
	)
}

func TestRows(t *testing.T) {
	for _, r := range append(plainRows(), poolRows()...) {
		t.Run(r.what, func(t *testing.T) {
			if len(r.takes) < 9 {
				r.check(t)
			} else if v := r.trial(t, r.takes, r.gives, r.room()); v != fine {
				t.Errorf("%v", v)
			}
			r.checkEmpty(t)
		})
	}
}
