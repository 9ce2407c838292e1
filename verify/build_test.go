package verify

import (
	"fmt"
	"testing"

	"jvmcore/api"
	classfile "jvmcore/class"
	"jvmcore/link"
	"jvmcore/maps"
)

// The flags of most classes.
const (
	open     = api.Public | api.SuperFlag
	openFace = api.Public | api.Interface | api.Abstract
)

// built: a class file that is put together.
type built struct {
	t *testing.T
	api.Class
	name, super string
	methods     []*routine
}

// routine: a method of it.
type routine struct {
	*built
	api.Method
	first []api.VType
}

func newBuilt(t *testing.T, name, super string, flags uint16, faces ...string) *built {
	b := &built{t: t, Class: api.Class{Major: 51, Flags: flags, Pool: []api.Const{{}}}, name: name, super: super}
	for _, s := range []string{"Code", "ConstantValue", "StackMapTable"} {
		b.text(s)
	}
	b.This, b.Super = b.class(name), b.class(super)
	for _, f := range faces {
		b.Interfaces = append(b.Interfaces, b.class(f))
	}
	return b
}

// constant: its index. None is there twice.
func (b *built) constant(c api.Const) uint16 {
	for k, x := range b.Pool {
		if k > 0 && x == c {
			return uint16(k)
		}
	}
	b.Pool = append(b.Pool, c)
	k := uint16(len(b.Pool) - 1)
	if c.Tag == api.Long || c.Tag == api.Double {
		b.Pool = append(b.Pool, api.Const{})
	}
	return k
}

func (b *built) text(s string) uint16 { return b.constant(api.Const{Tag: api.Utf8, Text: s}) }

func (b *built) class(s string) uint16 {
	return b.constant(api.Const{Tag: api.ClassRef, A: b.text(s)})
}

func (b *built) ref(tag uint8, class, name, of string) uint16 {
	pair := b.constant(api.Const{Tag: api.NameType, A: b.text(name), B: b.text(of)})
	return b.constant(api.Const{Tag: tag, A: b.class(class), B: pair})
}

func (b *built) field(flags uint16, name, of string) *built {
	b.Fields = append(b.Fields, api.Field{Flags: flags, Name: b.text(name), Type: b.text(of)})
	return b
}

// bare: a method without code.
func (b *built) bare(flags uint16, name, of string) *built {
	b.methods = append(b.methods, &routine{built: b, Method: api.Method{Flags: flags, Name: b.text(name), Type: b.text(of)}})
	return b
}

// routine: a method with code.
func (b *built) routine(flags uint16, name, of string, stack, locals int, code ...string) *routine {
	r := &routine{built: b, Method: api.Method{Flags: flags, Name: b.text(name), Type: b.text(of), HasCode: true}}
	r.Code = api.Code{MaxStack: stack, MaxLocals: locals}
	for _, s := range code {
		r.Code.Bytes += s
	}
	switch {
	case flags&api.Static != 0:
	case name == initName:
		r.first = append(r.first, thisT)
	default:
		r.first = append(r.first, obj(b.name))
	}
	b.methods = append(b.methods, r)
	return r
}

// takes: with these the method begins, beside what it is of.
func (r *routine) takes(l ...api.VType) *routine {
	r.first = append(r.first, l...)
	return r
}

func (r *routine) frames(l ...api.Frame) *routine {
	r.t.Helper()
	for _, f := range l {
		for _, v := range append(append([]api.VType{}, f.Locals...), f.Stack...) {
			if v.Tag == api.Object {
				r.class(v.Name)
			}
		}
	}
	s, e, k := maps.Write(l, r.Pool, r.first)
	if e != api.OK {
		r.t.Fatalf("Write of a map: %d, frame %d", e, k)
	}
	r.Code.Map = s
	return r
}

// catch: a handler; of any class, if it has no name.
func (r *routine) catch(from, to, target int, name string) *routine {
	h := api.Handler{From: from, To: to, Target: target}
	if name != "" {
		h.Type = r.class(name)
	}
	r.Code.Handlers = append(r.Code.Handlers, h)
	return r
}

func (b *built) bytes() string {
	b.t.Helper()
	c := b.Class
	for _, m := range b.methods {
		c.Methods = append(c.Methods, m.Method)
	}
	s, e := classfile.Write(c)
	if e != api.OK {
		b.t.Fatalf("%s: Write = %d", b.name, e)
	}
	return s
}

func define(t *testing.T, w *link.World, l ...*built) {
	t.Helper()
	for _, b := range l {
		if name, e := w.Define(b.bytes()); name != b.name || e != api.OK {
			t.Fatalf("Define of %q = %q, %d", b.name, name, e)
		}
	}
}

func worldOf(t *testing.T, l ...*built) *link.World {
	t.Helper()
	w := link.New()
	define(t, w, l...)
	return w
}

// neighbours: classes for each thing that is wrong with one, and right ones.
func neighbours(t *testing.T) []*built {
	return []*built{
		newBuilt(t, "A", objectName, open),
		newBuilt(t, "B", "A", open, "I"),
		newBuilt(t, "C", "B", open),
		newBuilt(t, "I", objectName, openFace),
		newBuilt(t, "J", objectName, openFace, "I"),
		newBuilt(t, "E", "java/lang/Error", open),
		newBuilt(t, "Orphan", "None", open),
		newBuilt(t, "OrphanFace", objectName, openFace, "None"),
		newBuilt(t, "Ring", "Ring", open),
		newBuilt(t, "Odd", "I", open),
		newBuilt(t, "q/Shut", objectName, api.SuperFlag),
		newBuilt(t, "Blind", "q/Shut", open),
		newBuilt(t, "BadError", "None", open),
	}
}

// verdict: what Verify tells.
type verdict struct {
	e          api.Errno
	number, at int
}

func (v verdict) String() string {
	return fmt.Sprintf("error %d, method %d, place %d", v.e, v.number, v.at)
}

var fine = verdict{}

// wrong: at a place of the first method.
func wrong(at int) verdict { return verdict{api.ErrVerify, 0, at} }

// broken: with this error, at a place of the first method.
func broken(e api.Errno, at int) verdict { return verdict{e, 0, at} }

func verdictOn(w *link.World, name string) verdict {
	e, number, at := Verify(w, name)
	return verdict{e, number, at}
}

// subject: the class that is verified: T, below A.
func subject(t *testing.T) *built {
	return newBuilt(t, "T", "A", open).field(0, "x", "I").field(0, "y", "LT;").field(api.Static, "s", "J")
}

// judge: a class, among the neighbours.
func judge(t *testing.T, b *built) verdict {
	t.Helper()
	w := worldOf(t, neighbours(t)...)
	define(t, w, b)
	v := verdictOn(w, b.name)
	if again := verdictOn(w, b.name); again != v {
		t.Errorf("Verify told %v, then %v", v, again)
	}
	return v
}

// want: the verdict on the class of a method.
func (r *routine) want(what string, v verdict) {
	r.t.Helper()
	if got := judge(r.t, r.built); got != v {
		r.t.Errorf("%s: %v, want %v", what, got, v)
	}
}

// static: the only method of the subject, which takes and gives nothing.
func static(t *testing.T, stack, locals int, code ...string) *routine {
	return subject(t).routine(api.Static, "m", "()V", stack, locals, code...)
}

// ops: instructions, as bytes.
func ops(l ...byte) string { return string(l) }

// with: an instruction, and two bytes behind it.
func with(op byte, k uint16) string { return ops(op, byte(k>>8), byte(k)) }

// frame: no locals, these on the stack.
func onStack(at int, l ...api.VType) api.Frame { return api.Frame{At: at, Stack: l} }

// inLocals: these locals, nothing on the stack.
func inLocals(at int, l ...api.VType) api.Frame { return api.Frame{At: at, Locals: l} }

func obj(name string) api.VType { return api.VType{Tag: api.Object, Name: name} }

func fresh(at int) api.VType { return api.VType{Tag: api.Fresh, At: at} }

// The types, told apart from those of the program.
var (
	topT    = api.VType{Tag: 0}
	intT    = api.VType{Tag: 1}
	floatT  = api.VType{Tag: 2}
	doubleT = api.VType{Tag: 3}
	longT   = api.VType{Tag: 4}
	nullT   = api.VType{Tag: 5}
	thisT   = api.VType{Tag: 6}
	anyT    = obj("java/lang/Object")
)

const ret = "\xb1"
