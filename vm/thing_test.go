package vm

import (
	"fmt"
	"strings"
	"testing"

	"jvmcore/api"
)

// arrayTypes: of 188, how its elements are put and got, what is put, and what is then there.
var arrayTypes = []struct {
	kind, put, get byte
	write          func(c *coder)
	print, first   string
	want           string
}{
	{10, 79, 46, func(c *coder) { c.int(-2147483648) }, "I", "0", "-2147483648"},
	{11, 80, 47, func(c *coder) { c.long(-1 << 63) }, "J", "0", "-9223372036854775808"},
	{6, 81, 48, func(c *coder) { c.float(0x7fc00001) }, "F", "f0", "f7fc00001"},
	{7, 82, 49, func(c *coder) { c.double(1 << 63) }, "D", "d0", "d8000000000000000"},
	{8, 84, 51, func(c *coder) { c.int(0x180) }, "I", "0", "-128"},
	{8, 84, 51, func(c *coder) { c.int(-1) }, "I", "0", "-1"},
	{4, 84, 51, func(c *coder) { c.int(3) }, "I", "0", "1"},
	{4, 84, 51, func(c *coder) { c.int(-2) }, "I", "0", "0"},
	{5, 85, 52, func(c *coder) { c.int(-1) }, "I", "0", "65535"},
	{5, 85, 52, func(c *coder) { c.int(65536) }, "I", "0", "0"},
	{9, 86, 53, func(c *coder) { c.int(0x18000) }, "I", "0", "-32768"},
	{9, 86, 53, func(c *coder) { c.int(-32769) }, "I", "0", "32767"},
}

func TestArrays(t *testing.T) {
	for _, x := range arrayTypes {
		for _, n := range []int{1, 2, 300, 900} {
			prints(t, fmt.Sprintf("array %d of %d", x.kind, n), list(x.first, "5", x.want, fmt.Sprint(n), x.first), plain(t, 8, 1, func(c *coder) {
				c.int(n).ops(188, x.kind, 75, 42).int(n - 1).ops(x.get).print(x.print)
				c.ops(8, 42).int(n - 1)
				x.write(c)
				c.ops(x.put).print("I").ops(42).int(n-1).ops(x.get).print(x.print).ops(42, 190).print("I")
				c.int(n+1).ops(188, x.kind).int(n - 1).ops(x.get).print(x.print)
			}))
		}
	}
	prints(t, "of no elements", "0 0 0", plain(t, 2, 0, func(c *coder) {
		c.ops(3, 188, 10, 190).print("I").ops(3).with(189, c.class(objectName)).ops(190).print("I").ops(3, 8).with(197, c.class("[[I")).ops(2, 190).print("I")
	}))
}

// Of very many elements, in a great heap.
func TestWideArrays(t *testing.T) {
	const n = 1<<20 - 4
	v := started(t, Options{Limit: 1 << 20, Young: 1 << 20, Depth: 2}, plain(t, 3, 1, func(c *coder) {
		for _, kind := range []byte{10, 8} {
			c.int(n).ops(188, kind, 75, 42, 190).print("I").ops(1, 75)
		}
		c.int(n).with(189, c.class(objectName)).ops(75)
		for _, k := range []int{0, 4096, n - 1} {
			c.ops(42).int(k).ops(42, 83, 42).int(k).ops(50).with(193, c.class("[Ljava/lang/Object;")).print("I")
		}
	}))
	if got := ends(t, v); got != fmt.Sprint(n, " ", n, " 1 1 1") || v.Live() != 2 {
		t.Errorf("printed %q, %d words", got, v.Live())
	}
}

func TestArraysOfThings(t *testing.T) {
	a := newBuilt(t, "A", objectName, open, "I").maker()
	b := newBuilt(t, "B", "A", open).maker()
	face := newBuilt(t, "I", objectName, openFace)
	null := func(c *coder) { c.ops(1) }
	arrayOfB := func(c *coder) { c.ops(3).with(189, c.class("B")) }
	for _, c := range []struct {
		class string
		none  bool
		push  func(c *coder)
	}{
		{objectName, false, func(c *coder) { c.made("B") }}, {objectName, false, func(c *coder) { c.ops(3, 188, 4) }}, {objectName, false, func(c *coder) { c.str("") }}, {objectName, true, null},
		{"A", false, func(c *coder) { c.made("A") }}, {"A", false, func(c *coder) { c.made("B") }}, {"A", true, null},
		{"I", false, func(c *coder) { c.made("A") }}, {"I", false, func(c *coder) { c.made("B") }}, {"[I", false, func(c *coder) { c.ops(3, 188, 10) }}, {"[I", true, null},
		{"[LA;", false, arrayOfB}, {"[LI;", false, arrayOfB}, {"[Ljava/lang/Object;", false, func(c *coder) { c.ops(3).with(189, c.class("[I")) }},
		{"java/lang/Cloneable", false, func(c *coder) { c.ops(3, 188, 10) }}, {"java/io/Serializable", false, arrayOfB}, {"java/io/Serializable", false, func(c *coder) { c.str("") }},
	} {
		main := newBuilt(t, "M", objectName, open).main(6, 1, func(x *coder) {
			x.ops(5).with(189, x.class(c.class)).ops(75, 42, 4)
			c.push(x)
			l := []api.VType{anyT}
			x.ops(83, 42, 3, 50).jump(199, "thing").ops(42, 4, 50).jump(199, "thing").ops(3).jump(167, "out").mark("thing", l).ops(4).mark("out", l, intT).print("I").ops(177)
		})
		want := "1"
		if c.none {
			want = "0"
		}
		prints(t, "array of "+c.class, want, main, a, b, face)
	}
	prints(t, "one thing at two places", "1 0", newBuilt(t, "M", objectName, open).main(6, 1, func(c *coder) {
		c.ops(5).with(189, c.class("A")).ops(75).made("A").ops(89, 42, 95, 3, 95, 83, 42, 95, 4, 95, 83)
		for _, k := range []byte{4, 5} {
			same, out := fmt.Sprint("same", k), fmt.Sprint("out", k)
			l := []api.VType{obj("[LA;")}
			c.ops(42, 3, 50)
			if k == 4 {
				c.ops(42, 4, 50)
			} else {
				c.ops(1)
			}
			c.jump(165, same).ops(3).jump(167, out).mark(same, l).ops(4).mark(out, l, intT).print("I")
		}
		c.ops(177)
	}), a, b, face)
}

// 197: as many arrays in each other as are told, and no more.
func TestDeepArrays(t *testing.T) {
	for _, c := range []struct {
		class   string
		numbers []byte
		live    int // words of all
	}{
		{"[I", []byte{4}, 6}, {"[Ljava/lang/Object;", []byte{3}, 5}, {"[[I", []byte{3}, 5},
		{"[[I", []byte{2, 3}, 4 + 2*5}, {"[[I", []byte{2, 0}, 4 + 2*2}, {"[[I", []byte{0, 3}, 2}, {"[[J", []byte{1, 5}, 3 + 7}, {"[[[Ljava/lang/String;", []byte{2, 3}, 4 + 2*5},
		{"[[[I", []byte{2, 3, 1}, 4 + 2*(5+3*3)}, {"[[[I", []byte{2, 0, 9}, 4 + 2*2}, {"[[[I", []byte{0, 0, 0}, 2}, {"[[[[B", []byte{1, 1, 1, 1}, 12},
	} {
		var want []string
		main := plain(t, 6, 1, func(x *coder) {
			for _, n := range c.numbers {
				x.ops(16, n)
			}
			x.with(197, x.class(c.class)).ops(byte(len(c.numbers)), 75, 42)
			x.with(193, x.class(c.class)).print("I")
			want = append(want, "1")
			x.ops(42)
			for k, n := range c.numbers {
				x.ops(89, 190).print("I")
				want = append(want, fmt.Sprint(n))
				if n == 0 || k == len(c.numbers)-1 {
					break
				}
				x.ops(16, n-1, 50) // the last of it
			}
			x.ops(87)
		})
		prints(t, fmt.Sprint(c.class, c.numbers), list(want...), main)
		v := started(t, Options{Limit: max(100, c.live+2), Young: 20, Depth: 2}, main)
		v.Run(0, 1+len(c.numbers)+1)
		if v.Live() != 2+c.live {
			t.Errorf("%s %v: %d words, want %d", c.class, c.numbers, v.Live(), 2+c.live)
		}
	}
	deepest := strings.Repeat("[", 255) + "I"
	v := started(t, usual, plain(t, 255, 1, func(c *coder) {
		for range 255 {
			c.ops(4)
		}
		c.with(197, c.class(deepest)).ops(255, 75)
		c.ops(42)
		for range 254 {
			c.ops(3, 50)
		}
		c.ops(190).print("I")
	}))
	if got := ends(t, v); got != "1" {
		t.Errorf("255 in each other: %q", got)
	}
	// Each of those within is another one.
	prints(t, "others", "0 9", plain(t, 4, 1, func(c *coder) {
		c.ops(5, 4).with(197, c.class("[[I")).ops(2, 75, 42, 3, 50, 3, 16, 9, 79, 42, 4, 50, 3, 46).print("I").ops(42, 3, 50, 3, 46).print("I")
	}))
}

// 192 and 193: what is of what.
func TestCasts(t *testing.T) {
	others := func() []*built {
		return []*built{
			newBuilt(t, "T", objectName, open, "I").maker(), newBuilt(t, "U", "T", open, "K").maker(), newBuilt(t, "V", objectName, open).maker(),
			newBuilt(t, "I", objectName, openFace), newBuilt(t, "J", objectName, openFace), newBuilt(t, "K", objectName, openFace, "J"),
		}
	}
	push := map[string]func(c *coder){
		"none": func(c *coder) { c.ops(1) }, "object": func(c *coder) { c.made(objectName) }, "T": func(c *coder) { c.made("T") }, "U": func(c *coder) { c.made("U") }, "text": func(c *coder) { c.str("x") },
		"[I": func(c *coder) { c.ops(3, 188, 10) }, "[J": func(c *coder) { c.ops(3, 188, 11) }, "[[I": func(c *coder) { c.ops(3).with(189, c.class("[I")) },
		"[U": func(c *coder) { c.ops(3).with(189, c.class("U")) }, "[T": func(c *coder) { c.ops(3).with(189, c.class("T")) }, "[K": func(c *coder) { c.ops(3).with(189, c.class("K")) }, "[[U": func(c *coder) { c.ops(3, 3).with(197, c.class("[[LU;")).ops(2) },
	}
	of := map[string]string{
		"object": objectName,
		"T":      "java/lang/Object T I",
		"U":      "java/lang/Object T U I J K",
		"text":   "java/lang/Object java/lang/String java/io/Serializable",
		"[I":     "java/lang/Object java/lang/Cloneable java/io/Serializable [I",
		"[J":     "java/lang/Object java/lang/Cloneable java/io/Serializable [J",
		"[[I":    "java/lang/Object java/lang/Cloneable java/io/Serializable [[I [Ljava/lang/Object; [Ljava/lang/Cloneable; [Ljava/io/Serializable;",
		"[U":     "java/lang/Object java/lang/Cloneable java/io/Serializable [LU; [LT; [LI; [LJ; [LK; [Ljava/lang/Object;",
		"[T":     "java/lang/Object java/lang/Cloneable java/io/Serializable [LT; [LI; [Ljava/lang/Object;",
		"[K":     "java/lang/Object java/lang/Cloneable java/io/Serializable [LK; [LJ; [Ljava/lang/Object;",
		"[[U":    "java/lang/Object java/lang/Cloneable java/io/Serializable [[LU; [[LT; [[LI; [[LJ; [[LK; [[Ljava/lang/Object; [Ljava/lang/Object; [Ljava/lang/Cloneable; [Ljava/io/Serializable;",
		"none":   "",
	}
	classes := strings.Fields("java/lang/Object T U V I J K java/lang/String java/io/Serializable java/lang/Cloneable [I [J [Z [[I [[J [LU; [LT; [LV; [LI; [LJ; [LK; [Ljava/lang/Object; [Ljava/lang/Cloneable; [Ljava/io/Serializable; [[LU; [[LT; [[LI; [[LJ; [[LK; [[Ljava/lang/Object;")
	for what, write := range push {
		yes := map[string]bool{}
		for _, s := range strings.Fields(of[what]) {
			yes[s] = true
		}
		var want []string
		main := plain(t, 4, 0, func(c *coder) {
			for _, s := range classes {
				write(c)
				c.with(193, c.class(s)).print("I")
				want = append(want, map[bool]string{true: "1", false: "0"}[yes[s]])
				if yes[s] || what == "none" {
					write(c)
					c.ops(89).with(192, c.class(s)).ops(88)
				}
			}
		})
		prints(t, what, list(want...), append([]*built{main}, others()...)...)
	}
	// Of none no class is looked for; a cast leaves the same thing.
	prints(t, "none", "0 null 'x", plain(t, 2, 0, func(c *coder) {
		c.ops(1).with(193, c.class("None")).print("I").ops(1).with(192, c.class("None")).with(192, c.class(stringName)).printText().str("x").with(192, c.class(objectName)).with(192, c.class(stringName)).printText()
	}))
}
