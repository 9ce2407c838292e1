package vm

import (
	"fmt"
	"strings"
	"testing"

	"jvmcore/api"
)

// same: prints 1 if the two references on the stack are to the same thing, else 0. Each needs a name of its own.
func (c *coder) same(name string, locals ...api.VType) *coder {
	return c.jump(165, name+" same").ops(3).jump(167, name+" out").mark(name+" same", locals).ops(4).mark(name+" out", locals, intT).print("I")
}

// The same text is the same thing, in one class and in two, as a value of a field, and behind intern; another of the same units is not.
func TestSameText(t *testing.T) {
	a := newBuilt(t, "A", objectName, open)
	a.valued(api.Static, "s", textType, a.stringRef("ab"))
	b := newBuilt(t, "B", objectName, open).method(api.Static, "t", "()"+textType, 1, 0, func(c *coder) { c.str("ab").ops(176) })
	a.main(4, 1, func(c *coder) {
		l := []api.VType{obj(stringName)}
		c.str("a").str("b").ofText("concat").ops(75)
		c.str("ab").str("ab").same("one class", l...)
		c.str("ab").static("B", "t", "()"+textType).same("two classes", l...)
		c.member(178, "A", "s", textType).str("ab").same("a field", l...)
		c.str("ab").ops(42).same("concat", l...)
		c.ops(42).ofText("intern").str("ab").same("intern", l...)
		c.ops(42).ofText("intern").ops(42).same("intern is not it", l...)
		c.str("ab").ofText("intern").str("ab").same("intern of the pool's", l...)
		c.ops(42).str("ab").ofText("equals").print("I")
		c.ops(177)
	})
	prints(t, "same", "1 1 1 0 1 0 1 1", a, b)
}

// Intern of a text that is new is that one, and the pool's is it too from then on.
func TestIntern(t *testing.T) {
	a := plain(t, 4, 2, func(c *coder) {
		l := []api.VType{obj(stringName), obj(stringName)}
		c.str("x").str("").ofText("concat").ops(75).str("x").str("y").ofText("concat").ops(76)
		c.ops(43).ofText("intern").ops(43).same("new", l...)
		c.str("xy").ops(43).same("the pool's", l...)
		c.str("x").str("y").ofText("concat").ofText("intern").ops(43).same("again", l...)
		c.ops(42).ofText("intern").ops(42).same("there was one", l...)
		c.str("x").ops(42).ofText("intern").same("that one", l...)
	})
	prints(t, "intern", "1 1 1 0 1", a)
	v := started(t, usual, a)
	ends(t, v)
	if v.Live() != 2+3+2+3+4 { // x, the empty text, y, xy
		t.Errorf("at the end: %d words", v.Live())
	}
}

func TestTexts(t *testing.T) {
	prints(t, "length", "0 1 3 3", plain(t, 2, 0, func(c *coder) {
		for _, s := range []string{"", "a", "abc", "a\xc2\x80\xe2\x82\xac"} {
			c.str(s).ofText("length").print("I")
		}
	}))
	prints(t, "charAt", "97 99 128 8364 0 65535", plain(t, 2, 0, func(c *coder) {
		for _, x := range []struct {
			s  string
			at int
		}{{"abc", 0}, {"abc", 2}, {"a\xc2\x80\xe2\x82\xac", 1}, {"a\xc2\x80\xe2\x82\xac", 2}, {"\xc0\x80", 0}, {"ab\xef\xbf\xbf", 2}} {
			c.str(x.s).int(x.at).ofText("charAt").print("I")
		}
	}))
	prints(t, "concat", "' 'a 'b 'ab 'aa 'abab 4", plain(t, 2, 0, func(c *coder) {
		for _, x := range [][2]string{{"", ""}, {"a", ""}, {"", "b"}, {"a", "b"}, {"a", "a"}} {
			c.str(x[0]).str(x[1]).ofText("concat").printText()
		}
		c.str("a").str("b").ofText("concat").ops(89).ofText("concat").ops(89).printText().ofText("length").print("I")
	}))
	prints(t, "equals", "1 0 0 0 1 0 0 0 0 1", plain(t, 4, 0, func(c *coder) {
		c.str("ab").str("ab").ofText("equals").print("I").str("ab").str("ac").ofText("equals").print("I").str("ab").str("a").ofText("equals").print("I").str("").str("a").ofText("equals").print("I").str("").str("").ofText("equals").print("I")
		c.str("ab").ops(1).ofText("equals").print("I").str("").made(objectName).ofText("equals").print("I").str("").ops(3, 188, 5).ofText("equals").print("I")
		c.str("a").ops(4, 188, 5).ofText("equals").print("I")
		c.str("a").str("b").ofText("concat").str("ab").ofText("equals").print("I")
	}))
}

// A text of very many units; concat doubles it till there is no more room.
func TestLongTexts(t *testing.T) {
	long := strings.Repeat("x", 65000)
	v := started(t, Options{Limit: 1 << 20, Young: 20, Depth: 2}, plain(t, 2, 1, func(c *coder) {
		c.str(long).ops(75)
		for range 3 {
			c.ops(42, 42).ofText("concat").ops(75)
		}
		c.ops(42).ofText("length").print("I").ops(42).int(519999).ofText("charAt").print("C").ops(42).printText()
	}))
	if got := ends(t, v); got != "520000 c78 '"+strings.Repeat(long, 8) || v.Live() != 2+65002 {
		t.Errorf("printed %d bytes, %d words", len(got), v.Live())
	}
}

// Texts are made when they are first needed, counted once, and stay.
func TestTextsLive(t *testing.T) {
	b := newBuilt(t, "B", objectName, open).method(api.Static, "t", "()V", 1, 0, func(c *coder) { c.str("one").ops(87).str("other").ops(87, 177) })
	a := plain(t, 2, 0, func(c *coder) {
		c.ops(0).str("one").ops(87).str("one").ops(87).static("B", "t", "()V").str("").ops(87).str("one").ops(87)
		c.str("one").str("").ofText("concat").ops(87)
		c.str("one").str("").ofText("concat").ofText("intern").ops(87)
	})
	v := started(t, usual, a, b)
	var changes []string
	last := 0
	for _, n := range lives(v) {
		if n != last {
			changes = append(changes, fmt.Sprint(n))
		}
		last = n
	}
	if got := list(changes...); got != "2 7 14 16 21 16 21 16" {
		t.Errorf("words: %s", got)
	}
	ends(t, v)
}

// new of java/lang/String is a text without units, till <init> would be called, which there is none of.
func TestNewText(t *testing.T) {
	v := started(t, usual, plain(t, 2, 0, func(c *coder) { c.with(187, c.class(stringName)).ops(87).str("").ofText("length").print("I") }))
	if got := fmt.Sprint(lives(v)); got != "[2 2 4 2 4 4 4 4]" {
		t.Errorf("words: %s", got)
	}
	ends(t, v)
}
