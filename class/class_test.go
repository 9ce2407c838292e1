package class

import (
	"reflect"
	"slices"
	"strings"
	"testing"

	"jvmcore/api"
)

// two, four: numbers in so many bytes.
func two(l ...int) string {
	var b []byte
	for _, x := range l {
		b = append(b, byte(x>>8), byte(x))
	}
	return string(b)
}

func four(x int) string { return two(x>>16, x) }

// attr: an attribute of a length that is right.
func attr(name int, body string) string { return two(name) + four(len(body)) + body }

// The indexes of the pool of the files below.
const (
	tA = iota + 1
	cA
	tObject
	cObject
	tCode
	tMap
	tValue
	tElse
	seven
	tX
	tInt
	tM
	tVoid
	tEmpty
	long
	behindLong
	cError
	tError
	size
)

const poolBytes = "\x00\x13" +
	"\x01\x00\x01A" + "\x07\x00\x01" + "\x01\x00\x10java/lang/Object" + "\x07\x00\x03" +
	"\x01\x00\x04Code" + "\x01\x00\x0dStackMapTable" + "\x01\x00\x0dConstantValue" + "\x01\x00\x04Else" +
	"\x03\x00\x00\x00\x07" + "\x01\x00\x01x" + "\x01\x00\x01I" + "\x01\x00\x01m" + "\x01\x00\x03()V" + "\x01\x00\x00" +
	"\x05\x00\x00\x00\x00\x00\x00\x00\x09" + "\x07\x00\x12" + "\x01\x00\x0fjava/lang/Error"

func text(s string) api.Const { return api.Const{Tag: api.Utf8, Text: s} }

func classRef(a uint16) api.Const { return api.Const{Tag: api.ClassRef, A: a} }

func samplePool() []api.Const {
	return []api.Const{
		{}, tA: text("A"), cA: classRef(tA), tObject: text("java/lang/Object"), cObject: classRef(tObject),
		tCode: text("Code"), tMap: text("StackMapTable"), tValue: text("ConstantValue"), tElse: text("Else"),
		seven: {Tag: api.Integer, Bits: 7}, tX: text("x"), tInt: text("I"), tM: text("m"), tVoid: text("()V"), tEmpty: text(""),
		long: {Tag: api.Long, Bits: 9}, behindLong: {}, cError: classRef(tError), tError: text("java/lang/Error"),
	}
}

// parts: those of a class file, in the order of its bytes.
type parts struct {
	head, pool, ids, interfaces, fields, methods, attributes string
}

func (p parts) join() string {
	return p.head + p.pool + p.ids + p.interfaces + p.fields + p.methods + p.attributes
}

// plain: a class of nothing.
func plain() parts {
	return parts{"\xca\xfe\xba\xbe\x00\x00\x00\x33", poolBytes, two(0x21, cA, cObject), two(0), two(0), two(0), two(0)}
}

func plainClass() api.Class {
	return api.Class{Major: 51, Flags: 0x21, This: cA, Super: cObject, Pool: samplePool()}
}

const (
	fieldHead  = "\x00\x09\x00\x0a\x00\x0b"
	methodHead = "\x00\x08\x00\x0c\x00\x0d"
	codeHead   = "\x00\x02\x00\x03\x00\x00\x00\x02\x00\xb1"
)

// whole: a class of everything, as it is written.
func whole() parts {
	p := plain()
	p.interfaces = two(2, cA, cError)
	p.fields = two(2) + fieldHead + two(0) + two(0x12, tM, tInt) + two(1) + attr(tValue, two(seven))
	body := codeHead + two(2, 0, 1, 1, 0, 1, 2, 0, cError) + two(1) + attr(tMap, "\x00\x00")
	p.methods = two(3) + methodHead + two(1) + attr(tCode, body) + methodHead + two(0) + methodHead + two(1) + attr(tCode, codeHead+two(0, 0))
	return p
}

func wholeClass() api.Class {
	c := plainClass()
	c.Interfaces = []uint16{cA, cError}
	c.Fields = []api.Field{{Flags: 9, Name: tX, Type: tInt}, {Flags: 0x12, Name: tM, Type: tInt, Value: seven}}
	m := api.Method{Flags: 8, Name: tM, Type: tVoid}
	full, short := m, m
	full.HasCode, short.HasCode = true, true
	short.Code = api.Code{MaxStack: 2, MaxLocals: 3, Bytes: "\x00\xb1"}
	full.Code = short.Code
	full.Code.Handlers = []api.Handler{{From: 0, To: 1, Target: 1}, {From: 1, To: 2, Target: 0, Type: cError}}
	full.Code.Map = "\x00\x00"
	c.Methods = []api.Method{full, m, short}
	return c
}

// reads: a file is read as that class, and as nothing else.
func reads(t *testing.T, s string, want api.Class) {
	t.Helper()
	if c, e, at := Read(s); e != api.OK || at != 0 || !reflect.DeepEqual(c, want) {
		t.Errorf("Read(%x) = %+v, %d, %d, want %+v", s, c, e, at, want)
	}
}

// wrongFile: reading tells the error and its place, and nothing else.
func wrongFile(t *testing.T, s string, e api.Errno, at int) {
	t.Helper()
	if c, x, place := Read(s); x != e || place != at || !reflect.DeepEqual(c, api.Class{}) {
		t.Errorf("Read(%x) of %d bytes = %+v, %d, %d, want %d, %d", s, len(s), c, x, place, e, at)
	}
}

// writes: a class is written as those bytes.
func writes(t *testing.T, c api.Class, want string) {
	t.Helper()
	if s, e := Write(c); s != want || e != api.OK {
		t.Errorf("Write(%+v) = %x, %d, want %x", c, s, e, want)
	}
}

// wrongWrite: writing tells the error, and nothing else.
func wrongWrite(t *testing.T, c api.Class, e api.Errno) {
	t.Helper()
	if s, x := Write(c); s != "" || x != e {
		t.Errorf("Write = %.40x, %d, want %d", s, x, e)
	}
}

// both: a class is written so, and what was written is read so.
func both(t *testing.T, s string, c api.Class) {
	t.Helper()
	reads(t, s, c)
	writes(t, c, s)
}

func TestRoundOfClasses(t *testing.T) {
	both(t, plain().join(), plainClass())
	both(t, whole().join(), wholeClass())
	c, p := plainClass(), plain()
	c.Major, p.head = 50, "\xca\xfe\xba\xbe\x00\x00\x00\x32"
	c.Flags, c.This, c.Super, p.ids = 0xfedc, 0x8001, 0, "\xfe\xdc\x80\x01\x00\x00"
	both(t, p.join(), c)
	c.Pool, p.pool = []api.Const{{}}, "\x00\x01"
	c.Interfaces, p.interfaces = []uint16{0, 0xffff, 0x102}, "\x00\x03\x00\x00\xff\xff\x01\x02"
	c.Fields, p.fields = []api.Field{{Flags: 0xffff, Name: 0x102, Type: 0xfffe}}, "\x00\x01\xff\xff\x01\x02\xff\xfe\x00\x00"
	c.Methods, p.methods = []api.Method{{Flags: 0xffff, Name: 0x102, Type: 0xfffe}}, "\x00\x01\xff\xff\x01\x02\xff\xfe\x00\x00"
	both(t, p.join(), c)
}

// TestGreatestNumbers: each at the greatest that its bytes have.
func TestGreatestNumbers(t *testing.T) {
	const most = 65535
	c, p := plainClass(), plain()
	c.Interfaces, p.interfaces = make([]uint16, most), two(most)+strings.Repeat("\x00\x00", most)
	c.Fields, p.fields = make([]api.Field, most), two(most)+strings.Repeat("\x00\x00\x00\x00\x00\x00\x00\x00", most)
	c.Methods = make([]api.Method, most)
	h := api.Handler{From: most, To: most, Target: most, Type: most}
	c.Methods[0] = api.Method{HasCode: true, Code: api.Code{MaxStack: most, MaxLocals: most, Handlers: slices.Repeat([]api.Handler{h}, most), Bytes: strings.Repeat("x", 70000), Map: strings.Repeat("y", 80000)}}
	body := two(most, most) + four(70000) + strings.Repeat("x", 70000) + two(most) + strings.Repeat("\xff", 8*most) + two(1) + attr(tMap, strings.Repeat("y", 80000))
	p.methods = two(most, 0, 0, 0, 1) + attr(tCode, body) + strings.Repeat("\x00\x00\x00\x00\x00\x00\x00\x00", most-1)
	s := p.join()
	got, e, at := Read(s)
	if e != api.OK || at != 0 || !reflect.DeepEqual(got, c) {
		t.Errorf("Read: %d, %d", e, at)
	}
	if w, e := Write(c); e != api.OK || w != s {
		t.Errorf("Write: %d bytes, %d, want %d bytes", len(w), e, len(s))
	}
}

// TestOnlyRead: what is handed in stays as it is, and what is handed out is nobody else's.
func TestOnlyRead(t *testing.T) {
	c := wholeClass()
	Write(c)
	Check(c)
	if !reflect.DeepEqual(c, wholeClass()) {
		t.Errorf("changed: %+v", c)
	}
	s := whole().join()
	a, _, _ := Read(s)
	a.Pool[1].Text, a.Interfaces[0], a.Fields[0].Flags, a.Methods[0].Flags, a.Methods[0].Code.Handlers[0].To = "", 9, 99, 99, 99
	reads(t, s, wholeClass())
}

// roundTrip: what is read is written, no longer than it was, and read again as it was.
func roundTrip(t *testing.T, s string) {
	t.Helper()
	c, e, at := Read(s)
	if e != api.OK {
		if !reflect.DeepEqual(c, api.Class{}) || at < 0 || at > len(s) || (e == api.ErrEnd) != (at == len(s)) {
			t.Fatalf("Read(%x) = %+v, %d, %d", s, c, e, at)
		}
		return
	}
	w, e := Write(c)
	if e != api.OK || len(w) > len(s) {
		t.Fatalf("Write of what was read of %x = %x, %d", s, w, e)
	}
	reads(t, w, c)
	if e, part, number, place := Check(c); e == api.OK && (part != 0 || number != 0 || place != 0) || part < 0 || part > 3 {
		t.Fatalf("Check(%+v) = %d, %d, %d, %d", c, e, part, number, place)
	}
}

// TestChangedBytes: each byte of a file at several others, and bytes left out.
func TestChangedBytes(t *testing.T) {
	s := whole().join()
	for k := range s {
		for _, b := range []byte{0, 1, 2, 5, 7, 8, 0x7f, 0x80, 0xff, s[k] + 1, s[k] - 1, s[k] ^ 0x40} {
			roundTrip(t, s[:k]+string([]byte{b})+s[k+1:])
		}
		for n := 1; n < 9 && k+n <= len(s); n++ {
			roundTrip(t, s[:k]+s[k+n:])
			roundTrip(t, s[:k+n]+s[k:])
		}
	}
}

func FuzzRead(f *testing.F) {
	for _, p := range []parts{plain(), whole()} {
		f.Add(p.join())
	}
	f.Add("\xca\xfe\xba\xbe")
	f.Fuzz(func(t *testing.T, s string) { roundTrip(t, s) })
}
