package class

import (
	"math"
	"math/bits"
	"slices"
	"strings"
	"testing"

	"jvmcore/api"
)

// built: a class that is put together.
type built struct {
	api.Class
}

// newBuilt: one that is right, with a field x of I, a field of a value, a method m of ()V and an <init>.
func newBuilt() *built {
	b := &built{api.Class{Major: 51, Flags: api.Public | api.SuperFlag, Pool: []api.Const{{}}}}
	b.This, b.Super = b.class("p/A"), b.class("java/lang/Object")
	b.Interfaces = []uint16{b.class("p/I"), b.class("p/J")}
	b.field(api.Private, "x", "I")
	b.field(api.Static|api.Final, "y", "I")
	b.Fields[1].Value = b.add(api.Const{Tag: api.Integer, Bits: 7})
	b.method(api.Public, "m", "()V", "\xb1")
	b.method(api.Public, "<init>", "()V", "\xb1")
	return b
}

// newFace: an interface that is right.
func newFace() *built {
	b := newBuilt()
	b.Flags = api.Public | api.Interface | api.Abstract
	b.Fields, b.Methods = nil, nil
	return b
}

// add: a constant more, and its index.
func (b *built) add(c api.Const) uint16 {
	b.Pool = append(b.Pool, c)
	index := len(b.Pool) - 1
	if c.Tag == api.Long || c.Tag == api.Double {
		b.Pool = append(b.Pool, api.Const{})
	}
	return uint16(index)
}

func (b *built) text(s string) uint16 { return b.add(text(s)) }

func (b *built) class(s string) uint16 { return b.add(classRef(b.text(s))) }

func (b *built) pair(name, of string) uint16 {
	return b.add(api.Const{Tag: api.NameType, A: b.text(name), B: b.text(of)})
}

func (b *built) ref(tag uint8, name, of string) uint16 {
	return b.add(api.Const{Tag: tag, A: b.This, B: b.pair(name, of)})
}

func (b *built) field(flags uint16, name, of string) *api.Field {
	b.Fields = append(b.Fields, api.Field{Flags: flags, Name: b.text(name), Type: b.text(of)})
	return &b.Fields[len(b.Fields)-1]
}

// method: one with code, of many locals, unless there is none.
func (b *built) method(flags uint16, name, of, code string) *api.Method {
	m := api.Method{Flags: flags, Name: b.text(name), Type: b.text(of), HasCode: code != ""}
	if m.HasCode {
		m.Code = api.Code{MaxLocals: 300, Bytes: code}
	}
	b.Methods = append(b.Methods, m)
	return &b.Methods[len(b.Methods)-1]
}

// answer: what Check tells.
type answer struct {
	e                   api.Errno
	part, number, place int
}

// checks: Check tells just that of it.
func (b *built) checks(t *testing.T, what string, want answer) {
	t.Helper()
	var got answer
	got.e, got.part, got.number, got.place = Check(b.Class)
	if got != want {
		t.Errorf("%s: Check = %v, want %v", what, got, want)
	}
}

// lastConstant: the answer of an error in the constant that was added last.
func (b *built) lastConstant(e api.Errno) answer {
	if e == api.OK {
		return answer{}
	}
	return answer{e, 0, len(b.Pool) - 1, 0}
}

func TestRight(t *testing.T) {
	b := newBuilt()
	b.checks(t, "a class", answer{})
	b.ref(api.FieldRef, "<clinit>", "[[J")
	b.ref(api.MethodRef, "<init>", "(J)V")
	b.ref(api.InterfaceRef, "a", "()J")
	b.add(api.Const{Tag: api.StringRef, A: b.text("")})
	b.class("[I")
	for tag := range 256 {
		switch tag {
		case api.ClassRef, api.StringRef, api.NameType, api.FieldRef, api.MethodRef, api.InterfaceRef:
		default:
			b.add(api.Const{Tag: uint8(tag), A: 65535, B: 65535, Bits: math.MaxUint64, Text: "\xff"})
		}
	}
	b.Major, b.Minor = 0, 9
	b.Methods[0].Code.MaxStack, b.Methods[0].Code.Map = -1, "?"
	b.checks(t, "what is not looked at", answer{})
	newFace().checks(t, "an interface", answer{})
	f := newFace()
	f.field(api.Public|api.Static|api.Final, "x", "I")
	f.method(api.Public|api.Abstract, "m", "()V", "")
	f.method(api.Static, "<clinit>", "()V", "\xb1")
	f.checks(t, "an interface with members", answer{})
	(&built{}).checks(t, "nothing", answer{api.ErrIndex, 1, 0, 0})
}

// TestClassConstants: and those of strings.
func TestClassConstants(t *testing.T) {
	for _, tag := range []uint8{api.ClassRef, api.StringRef} {
		for _, odd := range []int{0, 2, 9999, 65535} {
			b := newBuilt()
			b.add(api.Const{Tag: tag, A: uint16(odd)})
			b.checks(t, "no text", b.lastConstant(api.ErrIndex))
		}
		b := newBuilt()
		own := uint16(len(b.Pool))
		b.add(api.Const{Tag: tag, A: own})
		b.checks(t, "itself", b.lastConstant(api.ErrIndex))
		b = newBuilt()
		b.add(api.Const{Tag: tag, A: b.add(api.Const{Tag: api.Long, Text: "A"}) + 1})
		b.checks(t, "behind a long", b.lastConstant(api.ErrIndex))
	}
	for name, e := range map[string]api.Errno{"A": 0, "a/b": 0, "[I": 0, "[[La/b;": 0, "": api.ErrName, "a//b": api.ErrName, "[V": api.ErrName, "a.b": api.ErrName, "La;": api.ErrName, "[": api.ErrName} {
		b := newBuilt()
		b.class(name)
		b.checks(t, name, b.lastConstant(e))
		b = newBuilt()
		b.add(api.Const{Tag: api.StringRef, A: b.text(name)})
		b.checks(t, name+" as a string", answer{})
	}
}

func TestNameTypes(t *testing.T) {
	for _, c := range []struct {
		name, of string
		e        api.Errno
	}{
		{"a", "I", 0}, {"a", "()V", 0}, {"<init>", "I", 0}, {"<clinit>", "()I", 0}, {"<init>", "()I", 0}, {"a<b", "()V", 0}, {"a", "(J[D)[[Lx/y;", 0}, {"()V", "I", 0},
		{"", "I", api.ErrName}, {"a;", "()V", api.ErrName}, {"a.b", "I", api.ErrName}, {"a/b", "I", api.ErrName}, {"[", "I", api.ErrName},
		{"a", "", api.ErrType}, {"a", "V", api.ErrType}, {"a", "()", api.ErrType}, {"a", "(V)V", api.ErrType}, {"a", "II", api.ErrType}, {"a", "La", api.ErrType},
		{"", "", api.ErrName}, {"a;", "V", api.ErrName},
	} {
		b := newBuilt()
		b.pair(c.name, c.of)
		b.checks(t, c.name+" "+c.of, b.lastConstant(c.e))
		name, of := b.text(c.name), b.text(c.of)
		for _, odd := range []uint16{0, b.This, 65535} {
			for _, ends := range [][2]uint16{{odd, of}, {name, odd}, {odd, odd}} {
				b := newBuilt()
				b.text(c.name)
				b.text(c.of)
				b.add(api.Const{Tag: api.NameType, A: ends[0], B: ends[1]})
				b.checks(t, "no text", b.lastConstant(api.ErrIndex))
			}
		}
	}
}

func TestReferences(t *testing.T) {
	const field, method, face = 1 << api.FieldRef, 1 << api.MethodRef, 1 << api.InterfaceRef
	for _, c := range []struct {
		name, of string
		right    int // those of these tags are right
		names    int // those of these tags have a wrong name; of others the descriptor is wrong
	}{
		{"a", "I", field, 0}, {"a", "()V", method | face, 0}, {"a", "(JJ)I", method | face, 0},
		{"a<b", "I", field, method | face}, {"a>", "[J", field, method | face}, {"a<b", "()V", 0, method | face},
		{"<init>", "I", field, face}, {"<init>", "()V", method, face}, {"<init>", "(J)V", method, face}, {"<init>", "()I", 0, face}, {"<init>", "()LA;", 0, face},
		{"<clinit>", "I", field, method | face}, {"<clinit>", "()V", 0, method | face}, {"<clinit>", "()I", 0, method | face},
	} {
		for _, tag := range []uint8{api.FieldRef, api.MethodRef, api.InterfaceRef} {
			e := api.ErrType
			if c.names&(1<<tag) != 0 {
				e = api.ErrName
			} else if c.right&(1<<tag) != 0 {
				e = api.OK
			}
			b := newBuilt()
			b.ref(tag, c.name, c.of)
			b.checks(t, c.name+" "+c.of, b.lastConstant(e))
		}
	}
}

// TestReferencesToNothing: ahead of names that are wrong for the reference, and of pairs that are told by themselves.
func TestReferencesToNothing(t *testing.T) {
	for _, tag := range []uint8{api.FieldRef, api.MethodRef, api.InterfaceRef} {
		b := newBuilt()
		pair := b.pair("<clinit>", "()I")
		name := b.text("a")
		for _, a := range []uint16{0, pair, name, 65535} {
			b := &built{b.Class}
			b.add(api.Const{Tag: tag, A: a, B: pair})
			b.checks(t, "no class", b.lastConstant(api.ErrIndex))
		}
		like := b.add(api.Const{Tag: api.Integer, A: name, B: b.text("I")})
		for _, c := range []uint16{0, b.This, name, like, 65535} {
			b := &built{b.Class}
			b.add(api.Const{Tag: tag, A: b.This, B: c})
			b.checks(t, "no pair", b.lastConstant(api.ErrIndex))
		}
		for _, ends := range [][2]uint16{{0, name}, {name, 0}, {b.This, name}, {name, 65535}, {0, 0}} {
			b := &built{b.Class}
			at := uint16(len(b.Pool))
			b.Pool = append(slices.Clone(b.Pool), api.Const{Tag: tag, A: b.This, B: at + 1}, api.Const{Tag: api.NameType, A: ends[0], B: ends[1]})
			b.checks(t, "a pair of no texts", answer{api.ErrIndex, 0, int(at), 0})
		}
		// what is wrong with a class that is referred to is told of it alone
		c := newBuilt()
		at := uint16(len(c.Pool))
		of := map[bool]string{true: "I", false: "()V"}[tag == api.FieldRef]
		c.Pool = append(c.Pool, api.Const{Tag: tag, A: at + 1, B: at + 2}, classRef(0), api.Const{Tag: api.NameType, A: at + 3, B: at + 4}, text("a"), text(of))
		c.checks(t, "a class of no text", answer{api.ErrIndex, 0, int(at) + 1, 0})
		c.Pool[at+1].A = at + 5
		c.Pool = append(c.Pool, text("a//b"))
		c.checks(t, "a class of no name", answer{api.ErrName, 0, int(at) + 1, 0})
	}
}

// TestFirstConstant: of two that are wrong the first is told, whatever their errors are.
func TestFirstConstant(t *testing.T) {
	wrong := []func(b *built) api.Errno{
		func(b *built) api.Errno { b.add(classRef(0)); return api.ErrIndex },
		func(b *built) api.Errno { b.class(""); return api.ErrName },
		func(b *built) api.Errno { b.pair("a", "V"); return api.ErrType },
		func(b *built) api.Errno { b.ref(api.FieldRef, "a", "()V"); return api.ErrType },
		func(b *built) api.Errno { b.ref(api.MethodRef, "<clinit>", "()V"); return api.ErrName },
		func(b *built) api.Errno { b.add(api.Const{Tag: api.StringRef}); return api.ErrIndex },
	}
	for _, one := range wrong {
		for _, two := range wrong {
			b := newBuilt()
			want := b.lastConstant(one(b))
			want.number = len(b.Pool) - 1
			two(b)
			b.Flags, b.This, b.Fields[0].Name, b.Methods[0].Name = api.Interface, 0, 0, 0
			b.checks(t, "two", want)
		}
	}
}

// TestParts: each comes ahead of those behind it.
func TestParts(t *testing.T) {
	b := newBuilt()
	b.Methods[1].Name = 0
	b.checks(t, "a method", answer{api.ErrIndex, 3, 1, 0})
	b.Methods[0].Flags |= api.Private
	b.checks(t, "another method", answer{api.ErrFlags, 3, 0, 0})
	b.Fields[1].Type = 0
	b.checks(t, "a field", answer{api.ErrIndex, 2, 1, 0})
	b.Fields[0].Flags |= api.Public
	b.checks(t, "another field", answer{api.ErrFlags, 2, 0, 0})
	b.Interfaces[1] = b.Interfaces[0]
	b.checks(t, "an interface", answer{api.ErrTwice, 1, 0, 0})
	b.Super = b.class("[I")
	b.checks(t, "super", answer{api.ErrName, 1, 0, 0})
	b.This = 0
	b.checks(t, "this", answer{api.ErrIndex, 1, 0, 0})
	b.Flags |= api.Final | api.Abstract
	b.checks(t, "flags", answer{api.ErrFlags, 1, 0, 0})
	b.pair("a", "V")
	b.checks(t, "a constant", b.lastConstant(api.ErrType))
}

func TestFlagsOfClass(t *testing.T) {
	for flags := range 65536 {
		b := newFace()
		b.Flags = uint16(flags)
		face, abstract, final, super := flags&0x200 != 0, flags&0x400 != 0, flags&0x10 != 0, flags&0x20 != 0
		want := answer{}
		if face && !abstract || face && (final || super) || abstract && final {
			want = answer{api.ErrFlags, 1, 0, 0}
		}
		b.checks(t, "flags", want)
	}
}

// TestNamesOfClass: This, Super and interfaces that lead to no class, or to an array.
func TestNamesOfClass(t *testing.T) {
	set := map[string]func(b *built, index uint16){
		"this":             func(b *built, index uint16) { b.This = index },
		"super":            func(b *built, index uint16) { b.Super = index },
		"an interface":     func(b *built, index uint16) { b.Interfaces[0] = index },
		"the last of them": func(b *built, index uint16) { b.Interfaces[1] = index },
	}
	for what, do := range set {
		for _, start := range []func() *built{newBuilt, newFace} {
			b := start()
			for _, odd := range []uint16{0, b.text("A"), b.pair("a", "I"), 9999, 65535} {
				do(b, odd)
				b.checks(t, what, answer{api.ErrIndex, 1, 0, 0})
			}
			for _, array := range []string{"[I", "[[La/b;", "[Lp/A;"} {
				do(b, b.class(array))
				b.checks(t, what+" "+array, answer{api.ErrName, 1, 0, 0})
			}
		}
	}
	for _, super := range []string{"B", "java/lang/Objec", "java/lang/Objects", "java/lang/object", "Object", "p/I"} {
		b := newBuilt()
		b.Super = b.class(super)
		b.checks(t, super, answer{})
		f := newFace()
		f.Super = f.class(super)
		f.checks(t, super+" above an interface", answer{api.ErrName, 1, 0, 0})
		f.Interfaces = []uint16{0}
		f.checks(t, super+" above an interface, ahead of what it has", answer{api.ErrName, 1, 0, 0})
	}
	b := newBuilt()
	b.Interfaces = nil
	b.Super = b.This
	b.checks(t, "below itself", answer{})
}

// TestInterfacesTwice: by their names, not by their indexes.
func TestInterfacesTwice(t *testing.T) {
	for _, c := range []struct {
		names string
		e     api.Errno
	}{
		{"I", 0}, {"I J K", 0}, {"I I", api.ErrTwice}, {"I J I", api.ErrTwice}, {"J I I", api.ErrTwice}, {"I J K J", api.ErrTwice}, {"I i a/I I/a", 0}, {"p/A java/lang/Object", 0},
		{"I I [I", api.ErrTwice}, {"I [I I", api.ErrName}, {"I [I [I", api.ErrName},
	} {
		b := newBuilt()
		b.Interfaces = nil
		for _, name := range strings.Fields(c.names) {
			b.Interfaces = append(b.Interfaces, b.class(name))
		}
		want := answer{c.e, 1, 0, 0}
		if c.e == api.OK {
			want = answer{}
		}
		b.checks(t, c.names, want)
	}
	b := newBuilt()
	b.Interfaces = append(b.Interfaces, b.Interfaces[1], 0)
	b.checks(t, "the same index", answer{api.ErrTwice, 1, 0, 0})
	b.Interfaces[2], b.Interfaces[3] = 0, b.Interfaces[1]
	b.checks(t, "ahead of the same index", answer{api.ErrIndex, 1, 0, 0})
}

// fault: something that makes a class wrong, and the error.
type fault struct {
	what  string
	do    func(b *built)
	e     api.Errno
	place int
}

// inOrder: of any two faults of a list the first is told, of that part and number. (Of two that cannot be at once there is only the first.)
func inOrder(t *testing.T, start func() *built, part, number int, l []fault) {
	t.Helper()
	for k, one := range l {
		b := start()
		one.do(b)
		b.checks(t, one.what, answer{one.e, part, number, one.place})
		for _, two := range l[k+1:] {
			b := start()
			two.do(b)
			one.do(b)
			b.checks(t, one.what+" and "+two.what, answer{one.e, part, number, one.place})
		}
	}
}

func TestFieldInOrder(t *testing.T) {
	start := func() *built {
		b := newBuilt()
		b.field(0, "z", "J")
		b.field(0, "behind", "V") // what is wrong behind it is of no matter
		b.Methods[0].Name = 0
		return b
	}
	field := func(b *built) *api.Field { return &b.Fields[2] }
	inOrder(t, start, 2, 2, []fault{
		{"no name", func(b *built) { field(b).Name = 0 }, api.ErrIndex, 0},
		{"no type", func(b *built) { field(b).Type = b.This }, api.ErrIndex, 0},
		{"ErrName", func(b *built) { field(b).Name = b.text("a.b") }, api.ErrName, 0},
		{"ErrType", func(b *built) { field(b).Type = b.text("()V") }, api.ErrType, 0},
		{"ErrFlags", func(b *built) { field(b).Flags = api.Final | api.Volatile }, api.ErrFlags, 0},
		{"ErrTwice", func(b *built) { field(b).Name, field(b).Type = b.text("x"), b.text("I") }, api.ErrTwice, 0},
		{"value", func(b *built) { field(b).Value = b.text("x") }, api.ErrIndex, 0},
	})
}

func TestIndexesOfMembers(t *testing.T) {
	for _, odd := range []uint16{0, 2, 65535, 9999} {
		for k := range 4 {
			b := newBuilt()
			[]func(){func() { b.Fields[1].Name = odd }, func() { b.Fields[1].Type = odd }, func() { b.Methods[1].Name = odd }, func() { b.Methods[1].Type = odd }}[k]()
			b.checks(t, "an index", answer{api.ErrIndex, 2 + k/2, 1, 0})
		}
	}
}

func TestFieldNames(t *testing.T) {
	for _, c := range []struct {
		name, of string
		e        api.Errno
	}{
		{"a", "I", 0}, {"<init>", "I", 0}, {"<clinit>", "[J", 0}, {"a<", "Lx/y;", 0},
		{"", "I", api.ErrName}, {"a/b", "I", api.ErrName}, {"a;", "V", api.ErrName},
		{"a", "V", api.ErrType}, {"a", "", api.ErrType}, {"a", "()V", api.ErrType}, {"a", "L;", api.ErrType}, {"a", strings.Repeat("[", 255) + "I", 0}, {"a", strings.Repeat("[", 256) + "I", api.ErrType},
	} {
		b := newBuilt()
		b.field(0, c.name, c.of)
		want := answer{c.e, 2, 2, 0}
		if c.e == api.OK {
			want = answer{}
		}
		b.checks(t, c.name+" "+c.of, want)
	}
}

func TestFlagsOfFields(t *testing.T) {
	for _, start := range []func() *built{newBuilt, newFace} {
		b := start()
		b.Fields = nil
		b.field(0, "a", "I")
		for flags := range 65536 {
			b.Fields[0].Flags = uint16(flags)
			wrong := bits.OnesCount(uint(flags&7)) > 1 || flags&0x50 == 0x50 || b.Flags&api.Interface != 0 && flags&0xdf != 0x19
			want := answer{}
			if wrong {
				want = answer{api.ErrFlags, 2, 0, 0}
			}
			b.checks(t, "flags", want)
		}
	}
}

// TestMembersTwice: of the same name and the same descriptor, by their texts.
func TestMembersTwice(t *testing.T) {
	for _, c := range []struct {
		name, of string
		e        api.Errno
	}{{"x", "J", 0}, {"X", "I", 0}, {"xI", "I", 0}, {"m", "I", 0}, {"x", "I", api.ErrTwice}, {"y", "I", api.ErrTwice}} {
		b := newBuilt()
		b.field(api.Static, c.name, c.of)
		want := answer{c.e, 2, 2, 0}
		if c.e == api.OK {
			want = answer{}
		}
		b.checks(t, "field "+c.name+" "+c.of, want)
	}
	for _, c := range []struct {
		name, of string
		e        api.Errno
	}{{"m", "(I)V", 0}, {"m", "()I", 0}, {"M", "()V", 0}, {"x", "()V", 0}, {"<init>", "(I)V", 0}, {"m", "()V", api.ErrTwice}, {"<init>", "()V", api.ErrTwice}} {
		b := newBuilt()
		b.method(0, c.name, c.of, "\xb1")
		want := answer{c.e, 3, 2, 0}
		if c.e == api.OK {
			want = answer{}
		}
		b.checks(t, "method "+c.name+" "+c.of, want)
	}
	b := newBuilt()
	b.method(api.Static, "<clinit>", "()V", "\xb1")
	b.method(api.Static, "<clinit>", "()V", "\xb1")
	b.checks(t, "<clinit> twice", answer{api.ErrTwice, 3, 3, 0})
	// a field and a method have nothing to do with each other; nor has an interface
	b = newBuilt()
	b.field(0, "m", "J")
	b.method(0, "x", "()V", "\xb1")
	b.Interfaces = append(b.Interfaces, b.class("x"))
	b.checks(t, "a field and a method", answer{})
	b.Fields = append(b.Fields, b.Fields[0])
	b.checks(t, "the same indexes", answer{api.ErrTwice, 2, 3, 0})
}

// TestValues: of each descriptor with each constant.
func TestValues(t *testing.T) {
	kinds := map[string]uint8{
		"I": api.Integer, "S": api.Integer, "C": api.Integer, "B": api.Integer, "Z": api.Integer, "J": api.Long, "F": api.Float, "D": api.Double, "Ljava/lang/String;": api.StringRef,
		"[I": 0, "[B": 0, "Ljava/lang/Object;": 0, "[Ljava/lang/String;": 0, "Ljava/lang/Strin;": 0,
	}
	for of, right := range kinds {
		b := newBuilt()
		b.field(0, "a", of)
		f := &b.Fields[2]
		b.checks(t, "no value of "+of, answer{})
		text := b.text("a")
		indexes := []uint16{
			text, b.add(api.Const{Tag: api.Integer}), b.add(api.Const{Tag: api.Float}), b.add(api.Const{Tag: api.Long}), b.add(api.Const{Tag: api.Double}),
			b.This, b.add(api.Const{Tag: api.StringRef, A: text}), b.pair("a", "I"), b.ref(api.FieldRef, "a", "I"), b.ref(api.MethodRef, "a", "()V"),
		}
		behind := b.add(api.Const{Tag: api.Long}) + 1
		for _, index := range append(indexes, behind, uint16(len(b.Pool)), 65535) {
			f.Value = index
			want := answer{api.ErrIndex, 2, 2, 0}
			if int(index) < len(b.Pool) && b.Pool[index].Tag == right && right != 0 {
				want = answer{}
			}
			b.checks(t, of, want)
		}
	}
}
