package vm

import (
	"slices"
	"strings"
	"testing"

	"jvmcore/api"
	classfile "jvmcore/class"
	"jvmcore/maps"
)

// The flags of most classes, and names that are needed often.
const (
	open     = api.Public | api.SuperFlag
	openFace = api.Public | api.Interface | api.Abstract
	textType = "Ljava/lang/String;"
	anyType  = "Ljava/lang/Object;"
)

// built: a class file that is put together.
type built struct {
	t *testing.T
	api.Class
	name, super string
}

func newBuilt(t *testing.T, name, super string, flags uint16, faces ...string) *built {
	b := &built{t: t, Class: api.Class{Major: 51, Flags: flags, Pool: []api.Const{{}}}, name: name, super: super}
	for _, s := range []string{"Code", "ConstantValue", "StackMapTable"} {
		b.text(s)
	}
	b.This, b.Super = b.class(name), b.class(super)
	for _, f := range faces {
		b.Interfaces = append(b.Interfaces, b.class(f))
	}
	return b
}

// constant: its index. None is there twice.
func (b *built) constant(c api.Const) uint16 {
	for k, x := range b.Pool {
		if k > 0 && x == c {
			return uint16(k)
		}
	}
	b.Pool = append(b.Pool, c)
	k := uint16(len(b.Pool) - 1)
	if c.Tag == api.Long || c.Tag == api.Double {
		b.Pool = append(b.Pool, api.Const{})
	}
	return k
}

func (b *built) text(s string) uint16 { return b.constant(api.Const{Tag: api.Utf8, Text: s}) }

func (b *built) class(s string) uint16 {
	return b.constant(api.Const{Tag: api.ClassRef, A: b.text(s)})
}

func (b *built) stringRef(s string) uint16 {
	return b.constant(api.Const{Tag: api.StringRef, A: b.text(s)})
}

func (b *built) ref(tag uint8, class, name, of string) uint16 {
	pair := b.constant(api.Const{Tag: api.NameType, A: b.text(name), B: b.text(of)})
	return b.constant(api.Const{Tag: tag, A: b.class(class), B: pair})
}

func (b *built) field(flags uint16, name, of string) *built { return b.valued(flags, name, of, 0) }

// valued: a field with a value.
func (b *built) valued(flags uint16, name, of string, value uint16) *built {
	b.Fields = append(b.Fields, api.Field{Flags: flags, Name: b.text(name), Type: b.text(of), Value: value})
	return b
}

// bare: a method without code.
func (b *built) bare(flags uint16, name, of string) *built {
	b.Methods = append(b.Methods, api.Method{Flags: flags, Name: b.text(name), Type: b.text(of)})
	return b
}

// method: one with code.
func (b *built) method(flags uint16, name, of string, stack, locals int, write func(c *coder)) *built {
	c := &coder{built: b, marks: map[string]int{}}
	write(c)
	m := api.Method{Flags: flags, Name: b.text(name), Type: b.text(of), HasCode: true}
	m.Code = api.Code{MaxStack: stack, MaxLocals: locals, Bytes: c.linked(), Map: c.mapped(), Handlers: c.handlers()}
	b.Methods = append(b.Methods, m)
	return b
}

// main: that of the class.
func (b *built) main(stack, locals int, write func(c *coder)) *built {
	return b.method(api.Public|api.Static, "main", "()V", stack, locals, write)
}

// maker: <init> that calls the one above.
func (b *built) maker() *built {
	return b.method(api.Public, "<init>", "()V", 1, 1, func(c *coder) { c.ops(42).init(b.super).ops(177) })
}

func (b *built) bytes() string {
	b.t.Helper()
	s, e := classfile.Write(b.Class)
	if e != api.OK {
		b.t.Fatalf("%s: Write = %d", b.name, e)
	}
	return s
}

// coder: writes code.
type coder struct {
	*built
	code   []byte
	marks  map[string]int
	jumps  []jump
	frames []api.Frame
	guards []guard
}

// jump: of an instruction at a place, with an offset in some bytes at another.
type jump struct {
	from, at, size int
	mark           string
}

// guard: a handler, by marks, of a class (empty: of any).
type guard struct {
	from, to, target, class string
}

func (c *coder) guard(from, to, target, class string) *coder {
	c.guards = append(c.guards, guard{from, to, target, class})
	return c
}

func (c *coder) handlers() []api.Handler {
	var l []api.Handler
	for _, g := range c.guards {
		h := api.Handler{From: c.marks[g.from], To: c.marks[g.to], Target: c.marks[g.target]}
		if g.class != "" {
			h.Type = c.class(g.class)
		}
		l = append(l, h)
	}
	return l
}

func (c *coder) ops(l ...byte) *coder {
	c.code = append(c.code, l...)
	return c
}

// with: an instruction, and an index behind it.
func (c *coder) with(op byte, k uint16) *coder { return c.ops(op, byte(k>>8), byte(k)) }

// here: a place that is named, to which nothing jumps.
func (c *coder) here(name string) *coder {
	c.marks[name] = len(c.code)
	return c
}

// mark: a place that is jumped to, with these locals and this stack there.
func (c *coder) mark(name string, locals []api.VType, stack ...api.VType) *coder {
	c.marks[name] = len(c.code)
	c.frames = append(c.frames, api.Frame{At: len(c.code), Locals: locals, Stack: stack})
	return c
}

func (c *coder) jump(op byte, mark string) *coder {
	size := 2
	if op == 200 {
		size = 4
	}
	at := len(c.code)
	return c.ops(op).offset(at, size, mark)
}

func (c *coder) offset(from, size int, mark string) *coder {
	c.jumps = append(c.jumps, jump{from, len(c.code), size, mark})
	return c.ops(make([]byte, size)...)
}

func (c *coder) word(x int) *coder { return c.ops(byte(x>>24), byte(x>>16), byte(x>>8), byte(x)) }

// table: a switch by a table; the first mark is of all other keys.
func (c *coder) table(low int, marks ...string) *coder {
	from := len(c.code)
	c.ops(170).fill().offset(from, 4, marks[0]).word(low).word(low + len(marks) - 2)
	for _, m := range marks[1:] {
		c.offset(from, 4, m)
	}
	return c
}

// keys: a switch by keys; the first mark is of all others.
func (c *coder) keys(keys []int, marks ...string) *coder {
	from := len(c.code)
	c.ops(171).fill().offset(from, 4, marks[0]).word(len(keys))
	for k, m := range marks[1:] {
		c.word(keys[k]).offset(from, 4, m)
	}
	return c
}

func (c *coder) fill() *coder {
	for len(c.code)%4 != 0 {
		c.ops(0)
	}
	return c
}

func (c *coder) linked() string {
	for _, j := range c.jumps {
		d := c.marks[j.mark] - j.from
		for k := range j.size {
			c.code[j.at+k] = byte(d >> (8 * (j.size - 1 - k)))
		}
	}
	return string(c.code)
}

// mapped: the first mark has all of its locals told, as if others were ahead, so that it is of no matter with which the method begins.
func (c *coder) mapped() string {
	if len(c.frames) == 0 {
		return ""
	}
	slices.SortFunc(c.frames, func(a, b api.Frame) int { return a.At - b.At })
	for _, f := range c.frames {
		for _, v := range slices.Concat(f.Locals, f.Stack) {
			if v.Tag == api.Object {
				c.class(v.Name)
			}
		}
	}
	first := slices.Repeat([]api.VType{{Tag: api.Fresh, At: 65535}}, 5)
	s, e, k := maps.Write(c.frames, c.Pool, first)
	if e != api.OK {
		c.t.Fatalf("Write of a map: %d, frame %d", e, k)
	}
	return s
}

func (c *coder) static(class, name, of string) *coder {
	return c.with(184, c.ref(api.MethodRef, class, name, of))
}

func (c *coder) virtual(class, name, of string) *coder {
	return c.with(182, c.ref(api.MethodRef, class, name, of))
}

func (c *coder) special(class, name, of string) *coder {
	return c.with(183, c.ref(api.MethodRef, class, name, of))
}

func (c *coder) face(class, name, of string, slots byte) *coder {
	return c.with(185, c.ref(api.InterfaceRef, class, name, of)).ops(slots, 0)
}

func (c *coder) init(class string) *coder { return c.special(class, "<init>", "()V") }

// made: new, of a class, by <init>()V.
func (c *coder) made(class string) *coder {
	return c.with(187, c.class(class)).ops(89).init(class)
}

func (c *coder) member(op byte, class, name, of string) *coder {
	return c.with(op, c.ref(api.FieldRef, class, name, of))
}

func (c *coder) print(of string) *coder { return c.static("jvm/Out", "print", "("+of+")V") }

func (c *coder) printText() *coder { return c.print(textType) }

func (c *coder) str(s string) *coder { return c.with(19, c.stringRef(s)) }

func (c *coder) int(x int) *coder {
	return c.with(19, c.constant(api.Const{Tag: api.Integer, Bits: uint64(uint32(x))}))
}

func (c *coder) float(bits uint32) *coder {
	return c.with(19, c.constant(api.Const{Tag: api.Float, Bits: uint64(bits)}))
}

func (c *coder) long(x int64) *coder {
	return c.with(20, c.constant(api.Const{Tag: api.Long, Bits: uint64(x)}))
}

func (c *coder) double(bits uint64) *coder {
	return c.with(20, c.constant(api.Const{Tag: api.Double, Bits: bits}))
}

// ofText: a method of java/lang/String.
func (c *coder) ofText(name string) *coder {
	of := map[string]string{"length": "()I", "charAt": "(I)C", "concat": "(" + textType + ")" + textType, "intern": "()" + textType, "equals": "(" + anyType + ")Z"}
	return c.virtual(stringName, name, of[name])
}

func obj(name string) api.VType { return api.VType{Tag: api.Object, Name: name} }

var (
	intT    = api.VType{Tag: api.Int}
	longT   = api.VType{Tag: api.Int64}
	floatT  = api.VType{Tag: api.Float32}
	doubleT = api.VType{Tag: api.Float64}
	anyT    = obj(objectName)
)

var usual = Options{Limit: 2000, Young: 100, Depth: 20}

// machine: with classes.
func machine(t *testing.T, o Options, l ...*built) *VM {
	t.Helper()
	v, e := New(o)
	if v == nil || e != api.OK {
		t.Fatalf("New(%v) = %v, %d", o, v, e)
	}
	for _, b := range l {
		if name, e := v.Define(b.bytes()); name != b.name || e != api.OK {
			t.Fatalf("Define of %s = %q, %d", b.name, name, e)
		}
	}
	return v
}

// started: and main of the first class begun, as thread 0.
func started(t *testing.T, o Options, l ...*built) *VM {
	t.Helper()
	v := machine(t, o, l...)
	if n, e := v.Start(l[0].name); n != 0 || e != api.OK {
		t.Fatalf("Start of %s = %d, %d", l[0].name, n, e)
	}
	return v
}

// plain: class A with main of that code, and behind it return.
func plain(t *testing.T, stack, locals int, write func(c *coder)) *built {
	return newBuilt(t, "A", objectName, open).main(stack, locals, func(c *coder) {
		write(c)
		c.ops(177)
	})
}

// ends: the thread must be ended; what was printed, with spaces between.
func ends(t *testing.T, v *VM) string {
	t.Helper()
	v.Run(0, 1000000)
	if s, why, e := v.Thread(0); s != 2 || why != "" || e != api.OK {
		t.Fatalf("the thread: %d, %q, %d; printed: %q", s, why, e, v.Out())
	}
	return strings.Join(v.Out(), " ")
}

// prints: what main of the first class must print, whatever is collected when.
func prints(t *testing.T, what, want string, l ...*built) {
	t.Helper()
	if got := ends(t, started(t, usual, l...)); got != want {
		t.Errorf("%s: printed %q, want %q", what, got, want)
	}
	v := started(t, usual, l...)
	for k := 0; v.Run(0, 1) == 1; k++ {
		if left := v.Collect(k%3 == 0); k%3 == 0 && left != v.Live() || k%3 != 0 && left != 0 {
			t.Errorf("%s: Collect = %d, Live = %d", what, left, v.Live())
		}
	}
	if got := ends(t, v); got != want {
		t.Errorf("%s: step by step, with all collected, printed %q, want %q", what, got, want)
	}
}

// lives: what Live tells after each step, from after Start on.
func lives(v *VM) []int {
	l := []int{v.Live()}
	for v.Run(0, 1) == 1 {
		l = append(l, v.Live())
	}
	return l
}
