package vm

import (
	"fmt"
	"strings"
	"testing"

	"jvmcore/api"
)

// fieldTypes: descriptors; what is put; what is then printed, by the descriptor of print.
var fieldTypes = []struct {
	of    string
	put   func(c *coder)
	print string
	first string // what is there at first
	want  string
}{
	{"I", func(c *coder) { c.int(-2147483648) }, "I", "0", "-2147483648"},
	{"J", func(c *coder) { c.long(-1 << 63) }, "J", "0", "-9223372036854775808"},
	{"F", func(c *coder) { c.float(0x7fc00001) }, "F", "f0", "f7fc00001"},
	{"D", func(c *coder) { c.double(0x7ff0000000000000) }, "D", "d0", "d7ff0000000000000"},
	{"B", func(c *coder) { c.int(0x180) }, "I", "0", "-128"},
	{"B", func(c *coder) { c.int(-129) }, "I", "0", "127"},
	{"S", func(c *coder) { c.int(0x18000) }, "I", "0", "-32768"},
	{"S", func(c *coder) { c.int(-32769) }, "I", "0", "32767"},
	{"C", func(c *coder) { c.int(-1) }, "I", "0", "65535"},
	{"C", func(c *coder) { c.int(0x10000) }, "I", "0", "0"},
	{"Z", func(c *coder) { c.int(3) }, "I", "0", "1"},
	{"Z", func(c *coder) { c.int(-2) }, "I", "0", "0"},
	{textType, func(c *coder) { c.str("x") }, textType, "null", "'x"},
}

func TestFields(t *testing.T) {
	for k, f := range fieldTypes {
		what := fmt.Sprintf("field %d, %s", k, f.of)
		a := newBuilt(t, "A", objectName, open).maker().field(0, "before", "J").field(0, "f", f.of).field(0, "behind", anyType).field(api.Static, "z", "J").field(api.Static, "s", f.of).field(api.Static, "y", anyType)
		a.main(6, 1, func(c *coder) {
			c.made("A").ops(75)
			c.ops(42).member(180, "A", "f", f.of).print(f.print)
			c.ops(8, 42)
			f.put(c)
			c.member(181, "A", "f", f.of).print("I")
			c.ops(42).member(180, "A", "f", f.of).print(f.print)
			c.member(178, "A", "s", f.of).print(f.print).ops(8)
			f.put(c)
			c.member(179, "A", "s", f.of).print("I").member(178, "A", "s", f.of).print(f.print)
			c.ops(42).member(180, "A", "before", "J").print("J").ops(42).member(180, "A", "behind", anyType).with(192, c.class(stringName)).printText()
			c.member(178, "A", "z", "J").print("J").ops(177)
		})
		prints(t, what, list(f.first, "5", f.want, f.first, "5", f.want, "0", "null", "0"), a)
	}
}

// Fields of classes above, with the same names, and static ones of interfaces, each have places of their own.
func TestFieldsAbove(t *testing.T) {
	face := newBuilt(t, "I", objectName, openFace)
	face.valued(api.Public|api.Static|api.Final, "k", "I", face.constant(api.Const{Tag: api.Integer, Bits: 77}))
	top := newBuilt(t, "T", objectName, open, "I").maker().field(api.Public, "n", "I").field(api.Protected, "r", anyType).field(0, "n", "J").field(api.Public|api.Static, "s", "I")
	mid := newBuilt(t, "M", "T", open).maker().field(0, "n", "I").field(0, "r", anyType)
	low := newBuilt(t, "L", "M", open).maker().field(0, "own", textType)
	a := plain(t, 4, 1, func(c *coder) {
		c.made("L").ops(75)
		for k, f := range [][3]string{{"T", "n", "I"}, {"M", "n", "I"}} {
			c.ops(42, byte(4+k)).member(181, f[0], f[1], f[2])
		}
		c.ops(42).long(9).member(181, "M", "n", "J")
		c.ops(42).str("up").member(181, "T", "r", anyType).ops(42).str("mid").member(181, "L", "r", anyType).ops(42).str("low").member(181, "L", "own", textType)
		c.ops(42).member(180, "T", "n", "I").print("I").ops(42).member(180, "L", "n", "I").print("I").ops(42).member(180, "T", "n", "J").print("J")
		text := func() { c.with(192, c.class(stringName)).printText() }
		c.ops(42).member(180, "T", "r", anyType)
		text()
		c.ops(42).member(180, "M", "r", anyType)
		text()
		c.ops(42).member(180, "L", "own", textType).printText()
		c.ops(6).member(179, "L", "s", "I").member(178, "T", "s", "I").print("I").member(178, "M", "k", "I").print("I")
	})
	prints(t, "above", "1 2 9 'up 'mid 'low 3 77", a, face, top, mid, low)
	v := started(t, usual, a, face, top, mid, low)
	ends(t, v)
	if v.Live() != 2+4+5+5 {
		t.Errorf("at the end: %d words", v.Live())
	}
}

func TestConstantValues(t *testing.T) {
	a := newBuilt(t, "A", objectName, open).maker()
	integer := func(x int) uint16 {
		return a.constant(api.Const{Tag: api.Integer, Bits: uint64(uint32(x))})
	}
	var want []string
	for _, c := range []struct {
		of, name string
		value    uint16
		print    string
		want     string
	}{
		{"I", "i", integer(-5), "I", "-5"}, {"B", "b", integer(0x180), "I", "-128"}, {"S", "s", integer(0x18000), "I", "-32768"}, {"C", "c", integer(-1), "I", "65535"}, {"Z", "z", integer(2), "I", "0"}, {"Z", "y", integer(-1), "I", "1"},
		{"J", "j", a.constant(api.Const{Tag: api.Long, Bits: 1 << 63}), "J", "-9223372036854775808"},
		{"F", "f", a.constant(api.Const{Tag: api.Float, Bits: 0x7f800000}), "F", "f7f800000"},
		{"D", "d", a.constant(api.Const{Tag: api.Double, Bits: 1}), "D", "d1"},
		{textType, "t", a.stringRef("text"), textType, "'text"}, {textType, "u", a.stringRef("text"), textType, "'text"}, {textType, "none", 0, textType, "null"}, {"I", "zero", 0, "I", "0"},
	} {
		a.valued(api.Static, c.name, c.of, c.value)
		want = append(want, c.print+" "+c.name+" "+c.of+" "+c.want)
	}
	a.valued(0, "own", "I", integer(-5)).valued(0, "ownText", textType, a.stringRef("of no use")) // of a field that is not Static the value is of no matter
	var lines []string
	a.main(2, 0, func(c *coder) {
		for _, s := range want {
			x := strings.Fields(s)
			c.member(178, "A", x[1], x[2]).print(x[0])
			lines = append(lines, x[3])
		}
		c.made("A").ops(89).member(180, "A", "own", "I").print("I").member(180, "A", "ownText", textType).printText().ops(177)
	})
	lines = append(lines, "0", "null")
	prints(t, "values", list(lines...), a)
	v := started(t, usual, a)
	if v.Live() != 2+6 {
		t.Errorf("behind Start: %d words", v.Live())
	}
	ends(t, v)
	if v.Live() != 2+6 {
		t.Errorf("at the end: %d words", v.Live())
	}
}

// What a method gives is turned by its descriptor, what it takes is not.
func TestGives(t *testing.T) {
	a := newBuilt(t, "A", objectName, open)
	var want []string
	for _, c := range []struct {
		of   string
		x    int
		want string
	}{{"Z", 2, "0"}, {"Z", 3, "1"}, {"B", 0x1ff, "-1"}, {"B", 128, "-128"}, {"C", -1, "65535"}, {"C", 65536, "0"}, {"S", 32768, "-32768"}, {"S", -32769, "32767"}, {"I", 1 << 30, "1073741824"}} {
		want = append(want, c.want)
		a.method(api.Static, "g"+c.of+fmt.Sprint(len(want)), "()"+c.of, 1, 0, func(x *coder) { x.int(c.x).ops(172) })
	}
	a.method(api.Static, "j", "()J", 2, 0, func(c *coder) { c.long(-2).ops(173) })
	a.method(api.Static, "f", "()F", 1, 0, func(c *coder) { c.ops(13, 174) })
	a.method(api.Static, "d", "()D", 2, 0, func(c *coder) { c.ops(15, 175) })
	a.method(api.Static, "t", "()"+textType, 1, 0, func(c *coder) { c.str("t").ops(176) })
	a.method(api.Static, "takes", "(ZBCS)V", 1, 4, func(c *coder) {
		c.ops(26).print("I").ops(27).print("I").ops(28).print("I").ops(29).print("I").ops(177)
	})
	a.main(6, 0, func(c *coder) {
		for k, of := range []string{"Z", "Z", "B", "B", "C", "C", "S", "S", "I"} {
			c.ops(8).static("A", "g"+of+fmt.Sprint(k+1), "()"+of).print("I").print("I")
		}
		c.ops(8).static("A", "j", "()J").print("J").static("A", "f", "()F").print("F").static("A", "d", "()D").print("D").static("A", "t", "()"+textType).printText().print("I")
		c.int(2).int(0x1ff).int(-1).int(32768).static("A", "takes", "(ZBCS)V").ops(177)
	})
	var lines []string
	for _, s := range want {
		lines = append(lines, s, "5")
	}
	prints(t, "gives", list(append(lines, "-2", "f40000000", "d3ff0000000000000", "'t", "5", "2", "511", "-1", "32768")...), a)
}
