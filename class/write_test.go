package class

import (
	"math"
	"testing"

	"jvmcore/api"
	"jvmcore/pool"
)

// change: something that makes a class wrong for Write.
type change struct {
	what string
	do   func(c *api.Class)
	e    api.Errno
}

func rename(c *api.Class, from string) {
	for k := range c.Pool {
		if c.Pool[k].Text == from {
			c.Pool[k].Text = "other"
		}
	}
}

// changes: in the order in which their errors come. The first method has code, a handler and a map, the first field a value.
func changes() []change {
	code := func(c *api.Class) *api.Code { return &c.Methods[0].Code }
	return []change{
		{"version", func(c *api.Class) { c.Major = 52 }, api.ErrVersion},
		{"pool", func(c *api.Class) { c.Pool[tA].Tag = 2 }, api.ErrTag},
		{"interfaces", func(c *api.Class) { c.Interfaces = make([]uint16, 65536) }, api.ErrLength},
		{"ConstantValue", func(c *api.Class) { rename(c, "ConstantValue") }, api.ErrName},
		{"methods", func(c *api.Class) { c.Methods = append(c.Methods, make([]api.Method, 65535)...) }, api.ErrLength},
		{"Code", func(c *api.Class) { rename(c, "Code") }, api.ErrName},
		{"MaxStack", func(c *api.Class) { code(c).MaxStack = -1 }, api.ErrLength},
		{"MaxLocals", func(c *api.Class) { code(c).MaxLocals = 65536 }, api.ErrLength},
		{"handler", func(c *api.Class) { code(c).Handlers[0].To = -1 }, api.ErrLength},
		{"StackMapTable", func(c *api.Class) { rename(c, "StackMapTable") }, api.ErrName},
		{"MaxStack of the next", func(c *api.Class) { c.Methods[1].Code.MaxStack = 65536 }, api.ErrLength},
	}
}

func changeable() api.Class {
	c := wholeClass()
	c.Fields[0].Value = seven
	c.Methods[1].HasCode = true
	return c
}

// TestFirstErrorOfWrite: each alone, and each two at once.
func TestFirstErrorOfWrite(t *testing.T) {
	if _, e := Write(changeable()); e != api.OK {
		t.Fatalf("Write = %d", e)
	}
	l := changes()
	for k, a := range l {
		c := changeable()
		a.do(&c)
		if s, e := Write(c); s != "" || e != a.e {
			t.Errorf("%s: %.20x, %d, want %d", a.what, s, e, a.e)
		}
		for _, b := range l[k+1:] {
			c := changeable()
			b.do(&c)
			a.do(&c)
			if s, e := Write(c); s != "" || e != a.e {
				t.Errorf("%s and %s: %.20x, %d, want %d", a.what, b.what, s, e, a.e)
			}
		}
	}
	// as many fields as are too many, ahead of the name of the first's attribute
	c := changeable()
	rename(&c, "ConstantValue")
	c.Fields = append(c.Fields, make([]api.Field, 65534)...)
	wrongWrite(t, c, api.ErrLength)
	c.Fields = c.Fields[:65535]
	wrongWrite(t, c, api.ErrName)
}

func TestVersionsOfWrite(t *testing.T) {
	for _, minor := range []uint16{0, 1, 50, 51, 65535} {
		for _, major := range []uint16{0, 1, 45, 49, 50, 51, 52, 306, 65535} {
			c := plainClass()
			c.Minor, c.Major = minor, major
			_, e := Write(c)
			if right := minor == 0 && (major == 50 || major == 51); right != (e == api.OK) || !right && e != api.ErrVersion {
				t.Errorf("version %d.%d: %d", major, minor, e)
			}
		}
	}
	wrongWrite(t, api.Class{}, api.ErrVersion)
}

// TestPoolOfWrite: its errors are those of the pool.
func TestPoolOfWrite(t *testing.T) {
	for _, c := range []struct {
		pool []api.Const
		e    api.Errno
	}{
		{nil, api.ErrLength}, {make([]api.Const, 65536), api.ErrLength}, {[]api.Const{text("A")}, api.ErrTag}, {[]api.Const{{}, {Tag: 13}}, api.ErrTag},
		{[]api.Const{{}, text("\x00")}, api.ErrText}, {[]api.Const{{}, {Tag: api.Float, Bits: 1 << 32}}, api.ErrLength}, {[]api.Const{{}, {Tag: api.Long}}, api.ErrTag},
	} {
		x := plainClass()
		x.Pool = c.pool
		wrongWrite(t, x, c.e)
		x.Major = 49
		wrongWrite(t, x, api.ErrVersion)
	}
}

// TestNumbersOfWrite: each at -1, 0, the greatest that fits, and one above.
func TestNumbersOfWrite(t *testing.T) {
	for what, set := range map[string]func(c *api.Code, x int){
		"MaxStack": func(c *api.Code, x int) { c.MaxStack = x }, "MaxLocals": func(c *api.Code, x int) { c.MaxLocals = x },
		"From": func(c *api.Code, x int) { c.Handlers[1].From = x }, "To": func(c *api.Code, x int) { c.Handlers[1].To = x }, "Target": func(c *api.Code, x int) { c.Handlers[1].Target = x },
	} {
		for x, right := range map[int]bool{math.MinInt: false, -65536: false, -1: false, 0: true, 1: true, 255: true, 256: true, 65535: true, 65536: false, 1 << 32: false, math.MaxInt: false} {
			c := wholeClass()
			set(&c.Methods[0].Code, x)
			s, e := Write(c)
			if right != (e == api.OK) || !right && (e != api.ErrLength || s != "") {
				t.Errorf("%s %d: %d", what, x, e)
			}
			if right {
				reads(t, s, c)
			}
			// of a method without code it is of no matter
			c.Methods[0].HasCode = false
			if _, e := Write(c); e != api.OK {
				t.Errorf("%s %d, and no code: %d", what, x, e)
			}
		}
	}
}

// TestTooMany: of a list that has its number in two bytes.
func TestTooMany(t *testing.T) {
	for what, set := range map[string]func(c *api.Class, n int){
		"interfaces": func(c *api.Class, n int) { c.Interfaces = make([]uint16, n) }, "fields": func(c *api.Class, n int) { c.Fields = make([]api.Field, n) },
		"methods":  func(c *api.Class, n int) { c.Methods = make([]api.Method, n) },
		"handlers": func(c *api.Class, n int) { c.Methods[0].Code.Handlers = make([]api.Handler, n) },
	} {
		for n, e := range map[int]api.Errno{0: api.OK, 65535: api.OK, 65536: api.ErrLength, 65537: api.ErrLength} {
			c := wholeClass()
			set(&c, n)
			if s, x := Write(c); x != e || (s == "") != (e != api.OK) {
				t.Errorf("%d %s: %d, want %d", n, what, x, e)
			}
		}
	}
}

// TestAttributesOfWrite: each is there only if it has something to say.
func TestAttributesOfWrite(t *testing.T) {
	c, p := plainClass(), plain()
	c.Fields = []api.Field{{Flags: 9, Name: tX, Type: tInt}}
	for value, s := range map[uint16]string{0: "\x00\x00", 1: "\x00\x01\x00\x07\x00\x00\x00\x02\x00\x01", 65535: "\x00\x01\x00\x07\x00\x00\x00\x02\xff\xff"} {
		c.Fields[0].Value, p.fields = value, two(1)+fieldHead+s
		both(t, p.join(), c)
	}
	c, p = plainClass(), plain()
	c.Methods = []api.Method{{Flags: 8, Name: tM, Type: tVoid, HasCode: true}}
	p.methods = two(1) + methodHead + two(1, tCode) + four(12) + two(0, 0) + four(0) + two(0, 0)
	both(t, p.join(), c)
	c.Methods[0].Code.Map = "\x07"
	p.methods = two(1) + methodHead + two(1, tCode) + four(19) + two(0, 0) + four(0) + two(0, 1, tMap) + four(1) + "\x07"
	both(t, p.join(), c)
	c.Methods[0].HasCode = false
	p.methods = two(1) + methodHead + two(0)
	writes(t, c, p.join())
}

// named: a class with an attribute of each kind in turn, and what is behind its pool, by the index of that attribute's name.
func named(name string) (api.Class, func(index int) string) {
	c, p := plainClass(), plain()
	m := api.Method{Flags: 8, Name: tM, Type: tVoid, HasCode: true}
	switch name {
	case "ConstantValue":
		c.Fields = []api.Field{{Flags: 9, Name: tX, Type: tInt, Value: seven}}
	case "Code":
		c.Methods = []api.Method{m}
	case "StackMapTable":
		m.Code.Map = "xyz"
		c.Methods = []api.Method{m}
	}
	return c, func(index int) string {
		body := two(0, 0) + four(0) + two(0)
		switch name {
		case "ConstantValue":
			p.fields = two(1) + fieldHead + two(1) + attr(index, two(seven))
		case "Code":
			p.methods = two(1) + methodHead + two(1) + attr(index, body+two(0))
		case "StackMapTable":
			p.methods = two(1) + methodHead + two(1) + attr(tCode, body+two(1)+attr(index, "xyz"))
		}
		return p.ids + p.interfaces + p.fields + p.methods + p.attributes
	}
}

// TestNamesOfWrite: a name that the pool has not, has once, and has twice: the first text counts, and nothing else that has these bytes.
func TestNamesOfWrite(t *testing.T) {
	for _, name := range []string{"ConstantValue", "Code", "StackMapTable"} {
		c, behind := named(name)
		rename(&c, name)
		c.Pool = append(c.Pool, text(name+"x"), text(name[1:]), api.Const{Tag: api.Integer, Text: name}, api.Const{Tag: api.ClassRef, Text: name})
		wrongWrite(t, c, api.ErrName)
		last := len(c.Pool)
		c.Pool = append(c.Pool, text(name))
		for _, first := range []int{last, tEmpty, tElse, tA} {
			c.Pool[first] = text(name)
			constants, _, _ := pool.Write(c.Pool)
			writes(t, c, plain().head+constants+behind(first))
		}
	}
	// a name that nothing needs
	c := plainClass()
	c.Fields, c.Methods = []api.Field{{}}, []api.Method{{}}
	c.Pool = c.Pool[:tCode]
	if _, e := Write(c); e != api.OK {
		t.Errorf("no names, and no attributes: %d", e)
	}
	c.Methods[0].HasCode = true
	wrongWrite(t, c, api.ErrName)
}
