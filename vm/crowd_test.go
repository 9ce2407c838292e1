package vm

import (
	"fmt"
	"strings"
	"testing"

	"jvmcore/api"
)

// crowd: threads from 1 on, each in main of a class of its own (M1, M2, ..), behind the first step, which is of that class. Thread 0 has ended: it has made O.o and O.p, things, and what is told beside (O.s, of class S).
type crowd struct {
	Options
	setup  func(c *coder)
	others []*built
}

// o, p, s: the things that all know.
func (c *coder) o() *coder { return c.member(178, "O", "o", anyType) }

func (c *coder) p() *coder { return c.member(178, "O", "p", anyType) }

func (c *coder) s() *coder { return c.member(178, "O", "s", "LS;") }

// enter, exit: of the lock of O.o.
func (c *coder) enter() *coder { return c.o().ops(194) }

func (c *coder) exit() *coder { return c.o().ops(195) }

// ask: wait, notify or notifyAll of O.o.
func (c *coder) ask(name string) *coder { return c.o().virtual(objectName, name, "()V") }

// begun: of the code of each main, and behind it return.
func (w crowd) begun(t *testing.T, mains ...func(c *coder)) *VM {
	t.Helper()
	if w.Options == (Options{}) {
		w.Options = usual
	}
	first := newBuilt(t, "O", objectName, open).field(api.Static, "o", anyType).field(api.Static, "p", anyType).field(api.Static, "s", "LS;").field(api.Static, "n", "I")
	first.main(4, 1, func(c *coder) {
		c.made(objectName).member(179, "O", "o", anyType).made(objectName).member(179, "O", "p", anyType)
		if w.setup != nil {
			w.setup(c)
		}
		c.ops(177)
	})
	l := append([]*built{first}, w.others...)
	for k, write := range mains {
		l = append(l, newBuilt(t, fmt.Sprint("M", k+1), objectName, open).main(8, 4, func(c *coder) {
			write(c)
			c.ops(177)
		}))
	}
	v := started(t, w.Options, l...)
	ends(t, v)
	for k := range mains {
		if n, e := v.Start(fmt.Sprint("M", k+1)); n != k+1 || e != api.OK || v.Run(n, 1) != 1 {
			t.Fatalf("Start of M%d = %d, %d", k+1, n, e)
		}
	}
	return v
}

// script: words with spaces between: 1*5=3: thread 1 is run by 5 steps, and goes 3; 1:2: its state; 1:3/X: it died of java/lang/X; live=9, threads=2; out=1,2: what was printed in all; young, all: is collected.
func script(t *testing.T, what string, v *VM, words string) {
	t.Helper()
	for k, word := range strings.Fields(words) {
		at := fmt.Sprintf("%s, word %d, %s", what, k, word)
		var n, x, want int
		switch {
		case strings.HasPrefix(word, "out="):
			outIs(t, at, v, strings.ReplaceAll(word[4:], ",", " "))
		case word == "young" || word == "all":
			v.Collect(word == "all")
		case scan(word, "live=%d", &want):
			if got := v.Live(); got != want || v.Collect(true) != want {
				t.Errorf("%s: %d words", at, got)
			}
		case scan(word, "threads=%d", &want):
			if v.Threads() != want {
				t.Errorf("%s: %d", at, v.Threads())
			}
		case scan(word, "%d*%d=%d", &n, &x, &want):
			runs(t, at, v, n, x, want)
		case scan(word, "%d:%d", &n, &want):
			_, why, _ := strings.Cut(word, "/")
			if why != "" {
				why = lang + why
			}
			threadIs(t, at, v, n, want, why)
		default:
			t.Fatalf("%s: no such word", at)
		}
	}
}

func scan(word, form string, l ...any) bool {
	n, _ := fmt.Sscanf(word, form, l...)
	return n == len(l)
}

// scripts: a script goes the same way whatever is collected when, and however much room the young have.
func scripts(t *testing.T, what string, w crowd, words string, mains ...func(c *coder)) {
	t.Helper()
	script(t, what, w.begun(t, mains...), words)
	if w.Options == (Options{}) {
		w.Options = usual
	}
	for _, often := range []string{"young", "all"} {
		w.Young = 20
		script(t, what+", with "+often, w.begun(t, mains...), strings.Join(strings.Fields(words), " "+often+" "))
	}
	w.Young = w.Limit
	script(t, what+", with room", w.begun(t, mains...), words)
}
