package vm

import (
	"fmt"
	"math"
	"strings"
	"testing"

	"jvmcore/api"
	"jvmcore/num"
)

// list: texts with spaces between.
func list(l ...string) string { return strings.Join(l, " ") }

func TestConstants(t *testing.T) {
	prints(t, "ints", "-1 0 1 2 3 4 5", plain(t, 1, 0, func(c *coder) {
		for op := byte(2); op <= 8; op++ {
			c.ops(op).print("I")
		}
	}))
	prints(t, "longs, floats, doubles", "0 1 f0 f3f800000 f40000000 d0 d3ff0000000000000", plain(t, 2, 0, func(c *coder) {
		c.ops(9).print("J").ops(10).print("J").ops(11).print("F").ops(12).print("F").ops(13).print("F").ops(14).print("D").ops(15).print("D")
	}))
	prints(t, "bytes", "-128 -1 0 1 127", plain(t, 1, 0, func(c *coder) {
		for _, x := range []int8{-128, -1, 0, 1, 127} {
			c.ops(16, byte(x)).print("I")
		}
	}))
	prints(t, "two bytes", "-32768 -129 -1 0 256 32767", plain(t, 1, 0, func(c *coder) {
		for _, x := range []int16{-32768, -129, -1, 0, 256, 32767} {
			c.ops(17, byte(uint16(x)>>8), byte(x)).print("I")
		}
	}))
	prints(t, "of the pool", "-2147483648 2147483647 -9223372036854775808 9223372036854775807 f7fc00001 fff800000 d7ff0000000000000 dfff0000000000001 'x", plain(t, 2, 0, func(c *coder) {
		c.int(math.MinInt32).print("I").int(math.MaxInt32).print("I").long(math.MinInt64).print("J").long(math.MaxInt64).print("J")
		c.float(0x7fc00001).print("F").float(0xff800000).print("F").double(0x7ff0000000000000).print("D").double(0xfff0000000000001).print("D").str("x").printText()
	}))
	prints(t, "18", "7 'x f3f800000", plain(t, 2, 0, func(c *coder) {
		for _, x := range []struct {
			c  api.Const
			of string
		}{{api.Const{Tag: api.Integer, Bits: 7}, "I"}, {api.Const{Tag: api.StringRef, A: c.text("x")}, textType}, {api.Const{Tag: api.Float, Bits: 0x3f800000}, "F"}} {
			c.ops(18, byte(c.constant(x.c))).print(x.of)
		}
	}))
	prints(t, "nothing, and no thing", "null", plain(t, 1, 0, func(c *coder) { c.ops(0, 1, 0).printText().ops(0) }))
}

func TestPrints(t *testing.T) {
	prints(t, "I", "0 -1 -2147483648 2147483647", plain(t, 1, 0, func(c *coder) {
		for _, x := range []int{0, -1, math.MinInt32, math.MaxInt32} {
			c.int(x).print("I")
		}
	}))
	prints(t, "J", "0 -1 -9223372036854775808 9223372036854775807 4294967296", plain(t, 2, 0, func(c *coder) {
		for _, x := range []int64{0, -1, math.MinInt64, math.MaxInt64, 1 << 32} {
			c.long(x).print("J")
		}
	}))
	prints(t, "F", "f0 f80000000 f1 fff7fffff f7f800000 fff800000 f7fc00000", plain(t, 1, 0, func(c *coder) {
		for _, x := range []uint32{0, 1 << 31, 1, 0xff7fffff, 0x7f800000, 0xff800000, 0x7fc00000} {
			c.float(x).print("F")
		}
	}))
	prints(t, "D", "d0 d8000000000000000 d1 dffefffffffffffff d7ff0000000000000 dfff0000000000000 d7ff8000000000000", plain(t, 2, 0, func(c *coder) {
		for _, x := range []uint64{0, 1 << 63, 1, 0xffefffffffffffff, 0x7ff0000000000000, 0xfff0000000000000, 0x7ff8000000000000} {
			c.double(x).print("D")
		}
	}))
	prints(t, "parts that come of none, and of no end", "f7fc00000 f7f800000 fff800000 d7ff8000000000000", plain(t, 4, 0, func(c *coder) {
		c.ops(11, 11, 110).print("F").ops(12, 11, 110).print("F").ops(12, 11, 118, 110).print("F").ops(14, 14, 111).print("D")
	}))
	prints(t, "C", "c0 cffff c0 c1 cffff c8000 c41", plain(t, 1, 0, func(c *coder) {
		for _, x := range []int{0, 65535, 65536, 65537, -1, -32768, 'A'} {
			c.int(x).print("C")
		}
	}))
	prints(t, "texts", "' 'a\xc2\x80\xe2\x82\xac\xc0\x80 '' null", plain(t, 1, 0, func(c *coder) {
		c.str("").printText().str("a\xc2\x80\xe2\x82\xac\xc0\x80").printText().str("'").printText().ops(1).printText()
	}))
}

// 87 to 95, first of single slots a b c d, d at the top.
func TestStack(t *testing.T) {
	for op, want := range map[byte]string{
		87: "a b c", 88: "a b", 89: "a b c d d", 90: "a b d c d", 91: "a d b c d", 92: "a b c d c d", 93: "a c d b c d", 94: "c d a b c d", 95: "a b d c",
	} {
		names := strings.Fields(want)
		var l []string
		for k := range names {
			l = append(l, fmt.Sprint(names[len(names)-1-k][0]-'a'))
		}
		prints(t, fmt.Sprint(op), list(l...), plain(t, 6, 0, func(c *coder) {
			c.ops(3, 4, 5, 6, op)
			for range names {
				c.print("I")
			}
		}))
	}
	// With longs and doubles, of which J is 7 and K is 8; a to d are ints.
	for _, c := range []struct {
		op         byte
		from, want string
	}{
		{88, "a J", "a"}, {92, "a J", "a J J"}, {93, "a J", "J a J"}, {94, "a b J", "J a b J"}, {94, "J a b", "a b J a b"}, {94, "J K", "K J K"}, {91, "J a", "a J a"},
		{93, "a b c", "b c a b c"}, {92, "J a b", "J a b a b"}, {92, "J K", "J K K"}, {93, "J a K", "J K a K"}, {89, "J a", "J a a"}, {90, "J a b", "J b a b"}, {95, "J a b", "J b a"}, {87, "J a", "J"}, {88, "J K", "J"}, {94, "a J K", "a K J K"},
	} {
		prints(t, fmt.Sprintf("%d of %s", c.op, c.from), stackLines(c.want), plain(t, 8, 0, func(x *coder) {
			for _, name := range strings.Fields(c.from) {
				if name[0] >= 'a' {
					x.ops(3 + name[0] - 'a')
				} else {
					x.long(int64(name[0]-'J') + 7)
				}
			}
			x.ops(c.op)
			names := strings.Fields(c.want)
			for k := range names {
				if names[len(names)-1-k][0] >= 'a' {
					x.print("I")
				} else {
					x.print("J")
				}
			}
		}))
	}
}

// stackLines: what is printed of a stack, from its top on.
func stackLines(stack string) string {
	names := strings.Fields(stack)
	var l []string
	for k := range names {
		name := names[len(names)-1-k][0]
		if name >= 'a' {
			l = append(l, fmt.Sprint(name-'a'))
		} else {
			l = append(l, fmt.Sprint(name-'J'+7))
		}
	}
	return list(l...)
}

func TestLocals(t *testing.T) {
	prints(t, "ints of each number", "0 1 2 3 4", plain(t, 1, 300, func(c *coder) {
		c.ops(3, 59, 4, 60, 5, 61, 6, 62, 7, 54, 255) // istore_0 to istore_3, istore
		c.ops(26).print("I").ops(27).print("I").ops(28).print("I").ops(29).print("I").ops(21, 255).print("I")
	}))
	prints(t, "longs of each number", "5 6 7 8 9", plain(t, 2, 300, func(c *coder) {
		for k := range byte(4) {
			c.long(5+int64(k)).ops(63+k, 30+k).print("J")
		}
		c.long(9).ops(55, 254, 22, 254).print("J")
	}))
	prints(t, "floats of each number", "f0 f3f800000 f40000000 f0 f3f800000", plain(t, 1, 300, func(c *coder) {
		c.ops(11, 67, 12, 68, 13, 69, 11, 70, 12, 56, 9)
		c.ops(34).print("F").ops(35).print("F").ops(36).print("F").ops(37).print("F").ops(23, 9).print("F")
	}))
	prints(t, "doubles of each number", "d1 d2 d3 d4 d5", plain(t, 2, 300, func(c *coder) {
		for k := range byte(4) {
			c.double(1+uint64(k)).ops(71+k, 38+k).print("D")
		}
		c.double(5).ops(57, 7, 24, 7).print("D")
	}))
	prints(t, "references of each number", "'a 'b 'c 'd 'e", plain(t, 1, 300, func(c *coder) {
		for k := range byte(4) {
			c.str(string(rune('a' + k))).ops(75 + k)
		}
		c.str("e").ops(58, 100)
		for k := range byte(4) {
			c.ops(42 + k).printText()
		}
		c.ops(25, 100).printText()
	}))
	prints(t, "wide", "1 2 f3f800000 d7 'x", plain(t, 2, 65535, func(c *coder) {
		c.ops(4, 196, 54, 255, 254, 196, 21, 255, 254).print("I")
		c.long(2).ops(196, 55, 255, 253, 196, 22, 255, 253).print("J")
		c.ops(12, 196, 56, 1, 0, 196, 23, 1, 0).print("F")
		c.double(7).ops(196, 57, 1, 0, 196, 24, 1, 0).print("D")
		c.str("x").ops(196, 58, 3, 0, 196, 25, 3, 0).printText()
	}))
	prints(t, "132", "127 -1 2147483647 -2147483648 2147483647 -32763 32772", plain(t, 1, 300, func(c *coder) {
		c.ops(3, 59, 132, 0, 127, 26).print("I").ops(132, 0, 128, 26).print("I")
		c.int(math.MaxInt32).ops(60, 132, 1, 0, 27).print("I").ops(132, 1, 1, 27).print("I").ops(132, 1, 255, 27).print("I")
		c.ops(8, 61, 196, 132, 0, 2, 128, 0, 28).print("I").ops(8, 54, 44, 196, 132, 0, 44, 127, 255, 21, 44).print("I")
	}))
}

// What an instruction of numbers gives is what chapter 8 says, with the slots of longs and doubles.
func TestReckon(t *testing.T) {
	kinds := "IJFD"
	values := map[byte][]uint64{
		'I': {0, 1, 0xffffffff, 0x80000000, 0x7fffffff, 35},
		'J': {0, 1, math.MaxUint64, 1 << 63, 1<<63 - 1, 67, 1 << 32},
		'F': {0, 0x80000000, 0x3f800000, 0xc0490fdb, 0x7f800000, 0x7fc00000, 0x4f000000},
		'D': {0, 1 << 63, 0x3ff0000000000000, 0xc00921fb54442d18, 0x7ff0000000000000, 0x7ff8000000000000, 0x41e0000000000000},
	}
	push := func(c *coder, of byte, bits uint64) {
		switch of {
		case 'I':
			c.int(int(int32(bits)))
		case 'J':
			c.long(int64(bits))
		case 'F':
			c.float(uint32(bits))
		default:
			c.double(bits)
		}
	}
	line := func(of byte, bits uint64) string {
		switch of {
		case 'I':
			return fmt.Sprint(int32(bits))
		case 'J':
			return fmt.Sprint(int64(bits))
		}
		return fmt.Sprintf("%c%x", of+'a'-'A', bits)
	}
	one := func(op, takes, gives byte) {
		var want []string
		a := plain(t, 8, 0, func(c *coder) {
			for _, x := range values[takes] {
				bits, _ := num.One(op, x)
				want = append(want, line(gives, bits), "4")
				c.ops(7)
				push(c, takes, x)
				c.ops(op).print(string(gives)).print("I")
			}
		})
		prints(t, fmt.Sprint(op), list(want...), a)
	}
	two := func(op, first, second, gives byte) {
		var want []string
		a := plain(t, 8, 0, func(c *coder) {
			for _, x := range values[first] {
				for _, y := range values[second] {
					bits, e := num.Two(op, x, y)
					if e != api.OK {
						continue
					}
					want = append(want, line(gives, bits), "4")
					c.ops(7)
					push(c, first, x)
					push(c, second, y)
					c.ops(op).print(string(gives)).print("I")
				}
			}
		})
		prints(t, fmt.Sprint(op), list(want...), a)
	}
	for op := byte(96); op <= 115; op++ {
		two(op, kinds[op%4], kinds[op%4], kinds[op%4])
	}
	for op := byte(116); op <= 119; op++ {
		one(op, kinds[op-116], kinds[op-116])
	}
	for op := byte(120); op <= 125; op++ {
		two(op, kinds[op%2], 'I', kinds[op%2])
	}
	for op := byte(126); op <= 131; op++ {
		two(op, kinds[op%2], kinds[op%2], kinds[op%2])
	}
	for k, s := range strings.Fields("IJ IF ID JI JF JD FI FJ FD DI DJ DF II II II") {
		one(byte(133+k), s[0], s[1])
	}
	for k, of := range []byte("JFFDD") {
		two(byte(148+k), of, of, 'I')
	}
}
