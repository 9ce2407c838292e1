package code

import (
	"math"
	"slices"
	"strings"
	"testing"

	"jvmcore/api"
)

// checks: is what Check answers of one instruction, among others, right or not?
func checks(t *testing.T, i api.Ins, p []api.Const, locals int, right bool) {
	t.Helper()
	for _, at := range []int{0, 7, -3} {
		i.At = at
		e, place := Check([]api.Ins{{At: 99}, i, {At: 100, Op: 177}}, p, locals)
		if right && (e != api.OK || place != 0) || !right && (e != api.ErrOperand || place != at) {
			t.Errorf("Check(%v), %d locals = %d, %d, want %v", i, locals, e, place, right)
		}
	}
}

func TestCheckOfLocals(t *testing.T) {
	kinds := "ijfda"
	for n, first := range []uint8{21, 54} {
		for k := range 5 {
			op := first + uint8(k)
			need := 1
			if strings.Contains("jd", kinds[k:k+1]) {
				need = 2
			}
			for _, local := range []int{0, 1, 4, 255, 256, 65535} {
				for _, more := range []int{-2, -1, 0, 1, 2, 3} {
					checks(t, api.Ins{Op: op, A: local}, nil, local+more, more >= need)
					checks(t, api.Ins{Op: op, A: local, Wide: true}, nil, local+more, more >= need)
				}
			}
			for _, local := range []int{-1, -2, math.MinInt, math.MaxInt} {
				for _, locals := range []int{0, 9, -9, math.MaxInt, math.MinInt} {
					checks(t, api.Ins{Op: op, A: local}, nil, locals, false)
				}
			}
			for local := range 4 {
				op := []uint8{26, 59}[n] + uint8(4*k+local)
				for _, locals := range []int{math.MinInt, -1, 0, 1, 2, 3, 4, 5, 6, math.MaxInt} {
					checks(t, api.Ins{Op: op, A: 999}, nil, locals, locals >= local+need)
				}
			}
		}
	}
	for _, locals := range []int{-1, 0, 4, 5, 6} {
		checks(t, api.Ins{Op: 132, A: 4, B: 999}, nil, locals, locals >= 5)
		checks(t, api.Ins{Op: 132, A: -1}, nil, locals, false)
	}
}

// TestCheckOfNoOperand: instructions of no local and no index ask for none; those that are none neither.
func TestCheckOfNoOperand(t *testing.T) {
	asks := func(op int) bool {
		return op >= 18 && op <= 45 || op >= 54 && op <= 78 || op == 132 || op >= 178 && op <= 185 || slices.Contains([]int{187, 189, 192, 193, 197}, op)
	}
	for op := range 256 {
		for _, locals := range []int{0, -7, math.MinInt} {
			checks(t, api.Ins{Op: uint8(op), A: -9, B: 999, Targets: []int{-1}}, nil, locals, !asks(op))
		}
	}
	for _, p := range [][]api.Const{nil, {}, {{}}} {
		if e, at := Check(nil, p, -1); e != api.OK || at != 0 {
			t.Errorf("Check of nothing = %d, %d", e, at)
		}
	}
}

// The indexes of the pool below.
const (
	aName = iota + 1
	aInt
	aFloat
	aString
	aLong
	behindLong
	aDouble
	behindDouble
	aClass
	takesNone
	takesThree
	nameNone
	nameThree
	aField
	method0
	method3
	interface0
	interface3
	initName
	clinitName
	initPair
	clinitPair
	methodInit
	methodClinit
	interfaceInit
	interfaceClinit
	pairOfField
	methodOfField
	interfaceOfField
	methodOfNoPair
	interfaceOfNoPair
	pairOfNoText
	methodOfNoText
	pairOfNoName
	methodOfNoName
	interfaceOfNoName
	methodOfNothing
	interfaceOfNothing
	classOfNoText
	classOfNothing
	oneDeep
	classOneDeep
	deep254
	class254
	deep255
	class255
	objectDeep
	classObjectDeep
	bracketBehind
	classBracketBehind
	fieldOfNothing
	aStringOfNothing
	theLast
)

func samplePool() []api.Const {
	text := func(s string) api.Const { return api.Const{Tag: api.Utf8, Text: s} }
	return []api.Const{
		aName: text("a"), aInt: {Tag: api.Integer}, aFloat: {Tag: api.Float}, aString: {Tag: api.StringRef, A: aName},
		aLong: {Tag: api.Long}, aDouble: {Tag: api.Double}, behindDouble: {},
		aClass: {Tag: api.ClassRef, A: aName}, takesNone: text("()V"), takesThree: text("(JI)La;"),
		nameNone: {Tag: api.NameType, A: aName, B: takesNone}, nameThree: {Tag: api.NameType, A: aName, B: takesThree},
		aField: {Tag: api.FieldRef, A: aClass, B: pairOfField}, method0: {Tag: api.MethodRef, A: aClass, B: nameNone}, method3: {Tag: api.MethodRef, B: nameThree},
		interface0: {Tag: api.InterfaceRef, A: aClass, B: nameNone}, interface3: {Tag: api.InterfaceRef, A: 65535, B: nameThree},
		initName: text("<init>"), clinitName: text("<clinit>"), initPair: {Tag: api.NameType, A: initName, B: takesNone}, clinitPair: {Tag: api.NameType, A: clinitName, B: takesNone},
		methodInit: {Tag: api.MethodRef, A: aClass, B: initPair}, methodClinit: {Tag: api.MethodRef, A: aClass, B: clinitPair},
		interfaceInit: {Tag: api.InterfaceRef, A: aClass, B: initPair}, interfaceClinit: {Tag: api.InterfaceRef, A: aClass, B: clinitPair},
		pairOfField: {Tag: api.NameType, A: aName, B: aName}, methodOfField: {Tag: api.MethodRef, A: aClass, B: pairOfField}, interfaceOfField: {Tag: api.InterfaceRef, A: aClass, B: pairOfField},
		// These lead to what has the right numbers, but another tag.
		methodOfNoPair: {Tag: api.MethodRef, A: aClass, B: aField}, interfaceOfNoPair: {Tag: api.InterfaceRef, A: aClass, B: method0},
		pairOfNoText: {Tag: api.NameType, A: aName, B: aInt}, methodOfNoText: {Tag: api.MethodRef, A: aClass, B: pairOfNoText},
		pairOfNoName: {Tag: api.NameType, A: 65535, B: takesNone}, methodOfNoName: {Tag: api.MethodRef, A: aClass, B: pairOfNoName}, interfaceOfNoName: {Tag: api.InterfaceRef, A: aClass, B: pairOfNoName},
		methodOfNothing: {Tag: api.MethodRef, A: aClass}, interfaceOfNothing: {Tag: api.InterfaceRef, A: aClass, B: theLast + 1},
		classOfNoText: {Tag: api.ClassRef, A: aInt}, classOfNothing: {Tag: api.ClassRef},
		oneDeep: text("[I"), classOneDeep: {Tag: api.ClassRef, A: oneDeep},
		deep254: text(strings.Repeat("[", 254) + "I"), class254: {Tag: api.ClassRef, A: deep254}, deep255: text(strings.Repeat("[", 255) + "I"), class255: {Tag: api.ClassRef, A: deep255},
		objectDeep: text("[[La/b;"), classObjectDeep: {Tag: api.ClassRef, A: objectDeep}, bracketBehind: text("a[[["), classBracketBehind: {Tag: api.ClassRef, A: bracketBehind},
		fieldOfNothing: {Tag: api.FieldRef}, aStringOfNothing: {Tag: api.StringRef}, theLast: {Tag: api.Integer},
	}
}

// TestCheckOfIndexes: each index, and some that are none, for each instruction that has one.
func TestCheckOfIndexes(t *testing.T) {
	p := samplePool()
	if len(p) != theLast+1 {
		t.Fatal(len(p))
	}
	values := []int{aInt, aFloat, aString, aStringOfNothing, theLast}
	fields := []int{aField, fieldOfNothing}
	called := []int{method0, method3, methodOfNoName}
	flat := []int{aClass, classOfNoText, classOfNothing, classBracketBehind}
	below255 := append([]int{classOneDeep, class254, classObjectDeep}, flat...)
	classes := append([]int{class255}, below255...)
	for _, c := range []struct {
		op, b int
		right []int
	}{
		{18, 0, values}, {19, 0, values}, {20, 0, []int{aLong, aDouble}},
		{178, 0, fields}, {179, 0, fields}, {180, 0, fields}, {181, 0, fields},
		{182, 0, called}, {183, 0, append([]int{methodInit}, called...)}, {184, 0, called},
		{185, 0, nil}, {185, 1, []int{interface0, interfaceOfNoName}}, {185, 2, nil}, {185, 3, nil}, {185, 4, []int{interface3}}, {185, 5, nil}, {185, -1, nil}, {185, 257, nil},
		{187, 0, flat}, {189, 0, below255}, {192, 0, classes}, {193, 0, classes},
		{197, 1, []int{classOneDeep, class254, class255, classObjectDeep}}, {197, 2, []int{class254, class255, classObjectDeep}}, {197, 3, []int{class254, class255}},
		{197, 254, []int{class254, class255}}, {197, 255, []int{class255}}, {197, 256, nil}, {197, math.MaxInt, nil}, {197, 0, classes},
	} {
		for a := -3; a < len(p)+3; a++ {
			checks(t, api.Ins{Op: uint8(c.op), A: a, B: c.b}, p, 0, slices.Contains(c.right, a))
			for _, off := range []int{65536, -65536, 256, math.MinInt, math.MaxInt - theLast - 3} {
				checks(t, api.Ins{Op: uint8(c.op), A: a + off, B: c.b}, p, 0, false)
			}
		}
		for _, p := range [][]api.Const{nil, {}, {{}}} {
			checks(t, api.Ins{Op: uint8(c.op), B: c.b}, p, 0, false)
			checks(t, api.Ins{Op: uint8(c.op), A: 1, B: c.b}, p, 0, false)
		}
	}
}

// TestCheckOfIndexZero: the first is never right, whatever stands there.
func TestCheckOfIndexZero(t *testing.T) {
	for op, tag := range map[uint8]uint8{18: api.Integer, 19: api.StringRef, 20: api.Long, 178: api.FieldRef, 187: api.ClassRef, 193: api.ClassRef} {
		checks(t, api.Ins{Op: op}, []api.Const{{Tag: tag}}, 0, false)
		checks(t, api.Ins{Op: op, A: 1}, []api.Const{{}, {Tag: tag}}, 0, true)
	}
	text := api.Const{Tag: api.Utf8, Text: "()V"}
	p := []api.Const{text, {Tag: api.NameType, A: 2, B: 2}, text, {Tag: api.MethodRef, B: 1}}
	checks(t, api.Ins{Op: 184, A: 3}, p, 0, true)
	p[1].B = 0
	checks(t, api.Ins{Op: 184, A: 3}, p, 0, false)
	p[0], p[3].B = api.Const{Tag: api.NameType, A: 2, B: 2}, 0
	checks(t, api.Ins{Op: 184, A: 3}, p, 0, false)
}

// TestCheckOfNoText: what is no text is the empty one, even if it has a Text.
func TestCheckOfNoText(t *testing.T) {
	p := []api.Const{{}, {Tag: api.Integer, Text: "()V"}, {Tag: api.Utf8, Text: "()V"}, {Tag: api.Integer, Text: "<init>"}, {Tag: api.Integer, Text: "[[I"},
		{Tag: api.NameType, A: 2, B: 1}, {Tag: api.NameType, A: 3, B: 2}, {Tag: api.MethodRef, B: 5}, {Tag: api.MethodRef, B: 6}, {Tag: api.ClassRef, A: 4}}
	checks(t, api.Ins{Op: 184, A: 7}, p, 0, false)
	checks(t, api.Ins{Op: 184, A: 8}, p, 0, true)
	checks(t, api.Ins{Op: 187, A: 9}, p, 0, true)
	checks(t, api.Ins{Op: 197, A: 9, B: 1}, p, 0, false)
}

// TestCheckOfSlots: as many as a method may take.
func TestCheckOfSlots(t *testing.T) {
	for takes, slots := range map[string]int{"": 0, "J": 2, "D[D[J": 4, "La/b;ZBCSIF": 7, strings.Repeat("J", 127): 254, strings.Repeat("I", 254): 254} {
		p := []api.Const{{}, {Tag: api.Utf8, Text: "(" + takes + ")D"}, {Tag: api.NameType, B: 1}, {Tag: api.InterfaceRef, B: 2}}
		for _, b := range []int{slots - 1, slots, slots + 1, slots + 2, slots + 257} {
			checks(t, api.Ins{Op: 185, A: 3, B: b}, p, 0, b == slots+1)
		}
	}
	p := []api.Const{{}, {Tag: api.Utf8, Text: "(" + strings.Repeat("I", 255) + ")V"}, {Tag: api.NameType, B: 1}, {Tag: api.InterfaceRef, B: 2}}
	checks(t, api.Ins{Op: 185, A: 3, B: 256}, p, 0, false)
}

func TestCheckTellsTheFirst(t *testing.T) {
	l := []api.Ins{{}, {At: 1, Op: 21, A: 3}, {At: 3, Op: 18, A: 1}, {At: 5, Op: 22, A: 9}}
	for _, c := range []struct {
		p      []api.Const
		locals int
		place  int
	}{{nil, 3, 1}, {nil, 4, 3}, {[]api.Const{{}, {Tag: api.Float}}, 10, 5}, {[]api.Const{{}, {Tag: api.Float}}, 3, 1}} {
		if e, at := Check(l, c.p, c.locals); e != api.ErrOperand || at != c.place {
			t.Errorf("Check with %d locals = %d, %d, want %d", c.locals, e, at, c.place)
		}
	}
}

// TestCheckAgain: a method that was looked at once is looked at as strictly by the next instruction.
func TestCheckAgain(t *testing.T) {
	p := samplePool()
	for _, c := range []struct {
		l     []api.Ins
		place int
	}{
		{[]api.Ins{{Op: 183, A: methodInit}, {At: 3, Op: 182, A: methodInit}}, 3},
		{[]api.Ins{{Op: 185, A: interface3, B: 4}, {At: 5, Op: 185, A: interface3, B: 3}}, 5},
		{[]api.Ins{{Op: 185, A: interface3, B: 4}, {At: 5, Op: 182, A: interface3}}, 5},
		{[]api.Ins{{Op: 184, A: method0}, {At: 3, Op: 184, A: method3}, {At: 6, Op: 184, A: methodOfField}}, 6},
	} {
		if e, at := Check(c.l, p, 0); e != api.ErrOperand || at != c.place {
			t.Errorf("Check(%v) = %d, %d, want %d", c.l, e, at, c.place)
		}
		if e, at := Check(c.l[:len(c.l)-1], p, 0); e != api.OK || at != 0 {
			t.Errorf("Check(%v) = %d, %d", c.l[:len(c.l)-1], e, at)
		}
	}
}

// Each load and store has its local and that one's type, and nothing else has any.
func TestLocal(t *testing.T) {
	for op := range 256 {
		k, of, has := Local(api.Ins{Op: uint8(op), A: 77})
		number, kind, want := 77, 0, true
		switch {
		case op >= 21 && op <= 25:
			kind = op - 21
		case op >= 26 && op <= 45:
			number, kind = (op-26)%4, (op-26)/4
		case op >= 54 && op <= 58:
			kind = op - 54
		case op >= 59 && op <= 78:
			number, kind = (op-59)%4, (op-59)/4
		case op == 132:
		default:
			number, want = 0, false
		}
		if k != number || of != kind || has != want {
			t.Errorf("%d: %d, %d, %v, want %d, %d, %v", op, k, of, has, number, kind, want)
		}
	}
}
