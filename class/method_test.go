package class

import (
	"math"
	"math/bits"
	"strings"
	"testing"

	"jvmcore/api"
)

func TestMethodInOrder(t *testing.T) {
	start := func() *built {
		b := newBuilt()
		b.method(0, "n", "(J)V", "\x00\xb1")
		b.method(0, "behind", "V", "") // what is wrong behind it is of no matter
		return b
	}
	method := func(b *built) *api.Method { return &b.Methods[2] }
	code := func(b *built) *api.Code { return &b.Methods[2].Code }
	inOrder(t, start, 3, 2, []fault{
		{"no name", func(b *built) { method(b).Name = 0 }, api.ErrIndex, 0},
		{"no type", func(b *built) { method(b).Type = b.This }, api.ErrIndex, 0},
		{"ErrName", func(b *built) { method(b).Name = b.text("a<") }, api.ErrName, 0},
		{"ErrType", func(b *built) { method(b).Type = b.text("I") }, api.ErrType, 0},
		{"ErrFlags", func(b *built) { method(b).Flags |= api.Public | api.Protected }, api.ErrFlags, 0},
		{"ErrTwice", func(b *built) { method(b).Name, method(b).Type = b.text("m"), b.text("()V") }, api.ErrTwice, 0},
		{"ErrCode", func(b *built) { method(b).Flags |= api.Native }, api.ErrCode, 0},
		{"locals", func(b *built) { code(b).MaxLocals = 0 }, api.ErrLength, 0},
		{"instruction", func(b *built) { code(b).Bytes = "\x00\xa8\xb1" }, api.ErrOp, 1},
		{"operand", func(b *built) {
			code(b).Bytes += "\x15\xff" + "\xb4\x00\x00"
			code(b).MaxLocals = min(code(b).MaxLocals, 255)
		}, api.ErrOperand, 2},
		{"target", func(b *built) {
			code(b).Handlers = []api.Handler{{To: 1, Type: b.This}, {Target: 999, To: 1, Type: b.Methods[0].Name}}
		}, api.ErrTarget, 1},
	})
}

func TestMethodNames(t *testing.T) {
	for _, c := range []struct {
		name, of string
		e        api.Errno
	}{
		{"a", "()V", 0}, {"a", "(JD[I)Lx;", 0}, {"<init>", "(I)V", 0}, {"<clinit>", "()V", 0},
		{"", "()V", api.ErrName}, {"a<", "()V", api.ErrName}, {"<ini>", "()V", api.ErrName}, {"<init>x", "()V", api.ErrName}, {"a/b", "I", api.ErrName}, {"<x>", "I", api.ErrName},
		{"a", "I", api.ErrType}, {"a", "", api.ErrType}, {"a", "()", api.ErrType}, {"a", "(V)V", api.ErrType}, {"<init>", "I", api.ErrType}, {"<clinit>", "I", api.ErrType},
		{"<init>", "()I", api.ErrType}, {"<init>", "()[V", api.ErrType}, {"<init>", "()LV;", api.ErrType},
		{"<clinit>", "(I)V", api.ErrType}, {"<clinit>", "()I", api.ErrType}, {"<clinit>", "(J)D", api.ErrType},
		{"a", "(" + strings.Repeat("J", 127) + ")V", 0}, {"a", "(" + strings.Repeat("J", 127) + "I)V", api.ErrType},
	} {
		b := newBuilt()
		flags := uint16(0)
		if c.name == "<clinit>" {
			flags = api.Static
		}
		b.method(flags, c.name, c.of, "\xb1")
		want := answer{c.e, 3, 2, 0}
		if c.e == api.OK {
			want = answer{}
		}
		b.checks(t, c.name+" "+c.of, want)
	}
}

// wrongByDocument: are the flags of a method wrong, in a class of these flags?
func wrongByDocument(name string, flags, class int) bool {
	const public, private, static, final, synchronized, native, abstract = 1, 2, 8, 0x10, 0x20, 0x100, 0x400
	if name == "<clinit>" {
		return flags&static == 0 || flags&abstract != 0 || flags&native != 0
	}
	if class&0x200 != 0 {
		return flags&0x0d3f != public|abstract || name == "<init>"
	}
	if bits.OnesCount(uint(flags&7)) > 1 {
		return true
	}
	if flags&abstract != 0 {
		return flags&private != 0 || flags&static != 0 || flags&final != 0 || flags&synchronized != 0 || flags&native != 0 || class&abstract == 0 || name == "<init>"
	}
	return name == "<init>" && (flags&static != 0 || flags&final != 0 || flags&synchronized != 0 || flags&native != 0)
}

// TestFlagsOfMethods: all of them; and whether there may be code by them.
func TestFlagsOfMethods(t *testing.T) {
	for _, class := range []uint16{api.SuperFlag, api.Abstract, api.Abstract | api.Interface} {
		for _, name := range []string{"a", "<init>", "<clinit>"} {
			b := newFace()
			b.Flags = class
			b.method(0, name, "()V", "\xb1")
			for flags := range 65536 {
				for _, has := range []bool{true, false} {
					b.Methods[0].Flags, b.Methods[0].HasCode = uint16(flags), has
					want := answer{}
					if wrongByDocument(name, flags, int(class)) {
						want = answer{api.ErrFlags, 3, 0, 0}
					} else if has != (flags&0x500 == 0) {
						want = answer{api.ErrCode, 3, 0, 0}
					}
					b.checks(t, name, want)
				}
			}
		}
	}
}

// TestNoCode: what a method has beside HasCode is of no matter without it.
func TestNoCode(t *testing.T) {
	b := newBuilt()
	m := b.method(api.Native, "a", "(J)V", "")
	m.Code = api.Code{MaxStack: -1, MaxLocals: -1, Bytes: "\xff", Handlers: []api.Handler{{From: -1}}}
	b.checks(t, "native", answer{})
}

// TestLocals: as many as it takes, and one for what it is of.
func TestLocals(t *testing.T) {
	for _, c := range []struct {
		of    string
		slots int
	}{{"()V", 0}, {"(I)V", 1}, {"(J)V", 2}, {"(D)V", 2}, {"([J)V", 1}, {"(IJ[DLx;F)J", 6}, {"(" + strings.Repeat("D", 127) + ")V", 254}} {
		for _, flags := range []uint16{0, api.Static} {
			need := c.slots
			if flags == 0 {
				need++
			}
			for _, locals := range []int{math.MinInt, -1, 0, need - 1, need, need + 1, 65536, math.MaxInt} {
				b := newBuilt()
				b.method(flags, "a", c.of, "\xb1").Code.MaxLocals = locals
				want := answer{}
				if locals < need {
					want = answer{api.ErrLength, 3, 2, 0}
				}
				b.checks(t, c.of, want)
				b.Methods[2].Code.Bytes = ""
				b.checks(t, c.of+" of no bytes", answer{api.ErrLength, 3, 2, 0})
			}
		}
	}
}

// TestCodeOfMethods: errors of chapter 3, with their places.
func TestCodeOfMethods(t *testing.T) {
	for _, c := range []struct {
		code  string
		e     api.Errno
		place int
	}{
		{"\xb1", 0, 0}, {strings.Repeat("\x00", 65534) + "\xb1", 0, 0}, {strings.Repeat("\x00", 65535) + "\xb1", api.ErrLength, 0},
		{"\x00\xba", api.ErrOp, 1}, {"\x00\x00\x10", api.ErrEnd, 3}, {"\x00\xbc\x03", api.ErrOperand, 1}, {"\x00\x00\xa7\x00\x01", api.ErrTarget, 2},
		{"\x00\x1b\xb1", api.ErrOperand, 1}, {"\x1a\x15\x01\x00", api.ErrOperand, 1}, {"\x00\x00\x12\x00\xb1", api.ErrOperand, 2}, {"\x00\xb2\x00\x01\xb1", api.ErrOperand, 1},
		{"\x00\xb8\xff\xff\xb1", api.ErrOperand, 1}, {"\x1b\xba", api.ErrOp, 1}, {"\x1b\xa7\x00\x01", api.ErrTarget, 1},
	} {
		b := newBuilt()
		b.method(0, "a", "()V", c.code).Code.MaxLocals = 1
		want := answer{c.e, 3, 2, c.place}
		if c.e == api.OK {
			want = answer{}
		}
		b.checks(t, "code", want)
		b.Methods[2].Code.Handlers = []api.Handler{{From: -1}}
		if c.e == api.OK {
			want = answer{api.ErrTarget, 3, 2, 0}
		}
		b.checks(t, "code, and a handler", want)
	}
	b := newBuilt()
	b.method(0, "a", "()V", "\x12"+string([]byte{byte(b.Fields[1].Value)})+"\x57\xb1").Code.MaxLocals = 1
	b.checks(t, "an Integer of the pool", answer{})
}

// TestHandlers: instructions begin at 0, 2 and 3; the code ends at 4.
func TestHandlers(t *testing.T) {
	begins := map[int]bool{0: true, 2: true, 3: true}
	places := []int{math.MinInt, -1, 0, 1, 2, 3, 4, 5, 65535, 65536, math.MaxInt}
	for _, from := range places {
		for _, to := range places {
			for _, target := range places {
				b := newBuilt()
				code := &b.method(0, "a", "()V", "\x10\x07\x57\xb1").Code
				code.Handlers = []api.Handler{{From: from, To: to, Target: target}}
				right := begins[from] && begins[target] && (begins[to] || to == 4) && from < to
				want := answer{}
				if !right {
					want = answer{api.ErrTarget, 3, 2, 0}
				}
				b.checks(t, "a handler", want)
				code.Handlers = []api.Handler{{To: 4}, {From: 2, To: 3, Target: 3}, code.Handlers[0]}
				if !right {
					want.place = 2
				}
				b.checks(t, "the third handler", want)
				code.Handlers[2].Type = 65535
				if right {
					want = answer{api.ErrIndex, 3, 2, 2}
				}
				b.checks(t, "a handler of no class", want)
			}
		}
	}
}

func TestTypesOfHandlers(t *testing.T) {
	b := newBuilt()
	code := &b.method(0, "a", "()V", "\xb1").Code
	array := b.class("[I")
	for _, index := range []uint16{0, b.This, b.Super, array} {
		code.Handlers = []api.Handler{{To: 1, Type: index}}
		b.checks(t, "a class", answer{})
	}
	long := b.add(api.Const{Tag: api.Long})
	for _, index := range []uint16{b.Methods[0].Name, b.Fields[1].Value, b.pair("a", "I"), long, long + 1, 9999, 65535} {
		code.Handlers = []api.Handler{{To: 1}, {To: 1, Type: index}, {From: 1}}
		b.checks(t, "no class", answer{api.ErrIndex, 3, 2, 1})
		code.Handlers[0].To = 0
		b.checks(t, "no class, behind no place", answer{api.ErrTarget, 3, 2, 0})
	}
}
