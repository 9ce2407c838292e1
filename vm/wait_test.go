package vm

import (
	"fmt"
	"strings"
	"testing"

	"jvmcore/api"
)

// waiter: takes the lock of O.o so often, waits, prints a number, and lets the lock go as often.
func waiter(times int, n byte) func(c *coder) {
	return func(c *coder) {
		for range times {
			c.enter()
		}
		c.ask("wait").say(n)
		for range times {
			c.exit()
		}
	}
}

// teller: takes the lock of O.o, tells so often, and lets it go.
func teller(names ...string) func(c *coder) {
	return func(c *coder) {
		c.enter()
		for _, name := range names {
			c.ask(name)
		}
		c.exit()
	}
}

// A thread that waits has the lock no more, however often it had taken it; told, and when nobody has the lock, it has it as often again, in a step of its own.
func TestWaitAndNotify(t *testing.T) {
	for times := 1; times <= 4; times++ {
		for _, name := range []string{"notify", "notifyAll"} {
			words := fmt.Sprintf("1*99=%d 1:1 1*9=0 1:1 2*2=2 1*9=0 2*1=1 1*9=0 1:1 2*1=1 2:0 1*9=0 1:1 2*1=1 1*9=0 2*1=1 3*1=1 1*1=1 1:0 out= 3*9=0 ", 2*times+2)
			words += "1*2=2 out=7 "
			for range times {
				words += "3*9=0 1*1=1 3*9=0 1*1=1 "
			}
			words += "3*9=2 3:2 1*9=1 1:2 2*9=1 2:2 live=6"
			scripts(t, fmt.Sprint(name, ", taken ", times, " times"), crowd{}, words, waiter(times, 7), teller(name), func(c *coder) { c.enter() })
		}
	}
}

// It has the lock no more often than before: one more 195 is too many.
func TestWaitTakesNoMore(t *testing.T) {
	first := func(c *coder) {
		c.enter().enter().ask("wait").exit().exit().exit()
	}
	scripts(t, "one more", crowd{}, "1*9=6 2*9=7 2:2 1*9=7 1:3/IllegalMonitorStateException", first, teller("notify"))
}

// Without the lock, which is nobody's, or another's: nothing is told, and nobody waits; of none another thing is thrown.
func TestWaitErrors(t *testing.T) {
	for _, name := range []string{"wait", "notify", "notifyAll"} {
		call := func(c *coder) { c.ask(name) }
		wrong := " 2:3/IllegalMonitorStateException "
		scripts(t, name+", nobody's", crowd{}, "1*9=4 1:1 2*9=2"+wrong+"1*9=0 1:1 live=6", waiter(1, 7), call)
		scripts(t, name+", another's", crowd{}, "1*9=4 1:1 3*2=2 2*9=2"+wrong+"1*9=0 3*9=3 3:2 1*9=0 1:1", waiter(1, 7), call, teller())
		scripts(t, name+", of one who ended with it", crowd{}, "1*9=3 1:2 2*9=2"+wrong, func(c *coder) { c.enter() }, call)
		scripts(t, name+", let go", crowd{}, "2*9=6"+wrong, func(c *coder) {}, func(c *coder) { c.enter().exit().ask(name) })
		scripts(t, name+", with that of another thing", crowd{}, "1*9=4 2*9=4"+wrong+"1*9=0 1:1", waiter(1, 7), func(c *coder) { c.p().ops(194).ask(name) })
		scripts(t, name+", with that of a class", crowd{others: []*built{newBuilt(t, "X", objectName, open).method(syncStatic, "f", "()V", 1, 0, func(c *coder) { c.ask(name).ops(177) })}}, "2*9=5"+wrong, func(c *coder) {}, func(c *coder) { c.static("X", "f", "()V") })
		throws(t, name+" of none", "NullPointerException", func(c *coder) { c.ops(1).virtual(objectName, name, "()V") })
		throws(t, name+" without the lock", "IllegalMonitorStateException", func(c *coder) { c.made(objectName).virtual(objectName, name, "()V") })
		throws(t, name+" of an array", "IllegalMonitorStateException", func(c *coder) { c.array(3).virtual("[I", name, "()V") })
		decides(t, name+", no room", "IllegalMonitorStateException", plain(t, 2, 1, func(c *coder) { c.array(100).virtual("[I", name, "()V") }))
	}
}

// Of several that wait the lowest number of those that were not told yet; of none nobody, and that is not kept.
func TestNotifyInOrder(t *testing.T) {
	waiters := []func(c *coder){waiter(1, 1), waiter(2, 2), waiter(1, 3)}
	wait := map[int]string{1: "1*9=4 1:1", 2: "2*9=6 2:1", 3: "3*9=4 3:1"}
	over := map[string]string{"1": "1*9=6 1:2", "2": "2*9=8 2:2", "3": "3*9=6 3:2"}
	for _, order := range [][]int{{1, 2, 3}, {3, 2, 1}, {2, 3, 1}} {
		for told := 0; told <= 4; told++ {
			for _, wakes := range []string{"123", "321", "213"} {
				words := ""
				for _, n := range order {
					words += wait[n] + " "
				}
				words += fmt.Sprintf("4*99=%d 4:2 ", 5+2*told)
				for _, n := range strings.Split(wakes, "") {
					if n <= fmt.Sprint(min(told, 3)) {
						words += over[n] + " "
					} else {
						words += n + "*9=0 " + n + ":1 "
					}
				}
				names := make([]string, told)
				for k := range names {
					names[k] = "notify"
				}
				script(t, fmt.Sprint(order, ", told ", told, ", ", wakes), crowd{}.begun(t, waiters[0], waiters[1], waiters[2], teller(names...)), words)
			}
		}
	}
	all := "1*9=4 2*9=6 3*9=4 4*99=7 4:2 3*2=2 1*9=0 2*9=0 1:1 3*9=4 3:2 1*9=6 1:2 2*9=8 2:2 out=3,1,2"
	scripts(t, "notifyAll", crowd{}, all, waiters[0], waiters[1], waiters[2], teller("notifyAll"))
	scripts(t, "nobody waits", crowd{}, "2*9=7 2:2 3*9=7 3:2 1*9=4 1:1 1*9=0 1:1", waiters[0], teller("notify"), teller("notifyAll"))
	scripts(t, "one that was told is not told again", crowd{}, "1*9=4 3*9=7 3:2 2*9=6 4*9=7 4:2 1*9=6 1:2 2*9=8 2:2", waiters[0], waiters[1], teller("notify"), teller("notify"))
	scripts(t, "notifyAll behind notify", crowd{}, "1*9=4 2*9=6 3*9=4 4*9=9 4:2 2*9=8 3*9=6 1*9=6 out=2,3,1", waiters[0], waiters[1], waiters[2], teller("notify", "notifyAll"))
}

// Who waits again must be told again.
func TestWaitAgain(t *testing.T) {
	twice := func(c *coder) { c.enter().ask("wait").say(1).ask("wait").say(2).exit() }
	scripts(t, "again", crowd{}, "1*9=4 1:1 2*9=9 2:2 1*9=5 1:1 1*9=0 3*9=7 3:2 1*1=1 1:0 1*9=5 1:2 out=1,2", twice, teller("notify", "notify"), teller("notifyAll"))
	scripts(t, "told by one who waits then", crowd{}, "1*9=4 2*9=6 2:1 1*9=8 1:2 2*9=6 2:2 out=1,2",
		func(c *coder) { c.enter().ask("wait").say(1).ask("notify").exit() }, func(c *coder) { c.enter().ask("notify").ask("wait").say(2).exit() })
}

// Only the lock of the thing that it waits for goes; and only who waits for that one is told.
func TestWaitOfTwoLocks(t *testing.T) {
	both := func(c *coder) { c.p().ops(194).enter().enter().ask("wait").say(1).exit().exit().p().ops(195) }
	other := func(c *coder) { c.p().ops(194).p().virtual(objectName, "notifyAll", "()V").p().ops(195) }
	scripts(t, "two", crowd{}, "1*9=8 1:1 2*9=1 2*9=0 3*9=7 3:2 2*9=0 1*1=1 1:0 2*9=0 1*8=8 2*9=6 2:2 1*9=1 1:2", both, other, teller("notify"))
	one := func(c *coder) { c.p().ops(194).p().virtual(objectName, "wait", "()V").say(2) }
	scripts(t, "of another thing", crowd{}, "1*9=4 2*9=4 2:1 3*9=7 2*9=0 2:1 1*9=6 1:2 4*9=7 2*9=4 2:2 out=1,2", waiter(1, 1), one, teller("notifyAll"), other)
	first := crowd{}.begun(t, one, waiter(1, 1), teller("notify"), other)
	script(t, "the lowest of the other", first, "1*9=4 2*9=4 3*9=7 1*9=0 1:1 2*9=6 2:2 4*9=7 1*9=4 1:2 out=1,2")
}

// In a Synchronized method: the lock that the call has taken goes as well, and is let go once when the frame is over.
func TestWaitInSynchronized(t *testing.T) {
	s := newBuilt(t, "S", objectName, open).maker()
	s.method(syncOpen, "v", "()V", 1, 1, func(c *coder) { c.ops(42).virtual("S", "wait", "()V").ops(0, 177) })
	s.method(syncOpen, "w", "()V", 1, 1, func(c *coder) { c.ops(42).virtual("S", "v", "()V").ops(0, 177) })
	s.method(syncOpen, "n", "()V", 1, 1, func(c *coder) { c.ops(42).virtual("S", "notify", "()V").ops(177) })
	w := crowd{others: []*built{s}, setup: func(c *coder) { c.made("S").member(179, "O", "s", "LS;") }}
	call := func(name string) func(c *coder) { return func(c *coder) { c.s().virtual("S", name, "()V") } }
	enter := func(c *coder) { c.s().ops(194).s().ops(195) }
	scripts(t, "one frame", w, "1*9=4 1:1 2*9=6 2:2 3*1=1 1*1=1 3*9=0 1*1=1 3*9=0 1*1=1 3*9=4 3:2 1*9=1 1:2", call("v"), call("n"), enter)
	scripts(t, "two frames", w, "1*9=6 1:1 2*9=6 2:2 3*1=1 1*1=1 3*9=0 1*2=2 3*9=0 1*1=1 3*9=0 1*1=1 3*9=4 3:2 1*9=1 1:2", call("w"), call("n"), enter)
	scripts(t, "told by one within", w, "1*9=4 1:1 2*4=4 1*9=0 2*1=1 1*9=4 1:2 1*9=0", call("v"), call("n"))
}

// A thread that waits holds what is in its frames, and that alone: not the thing that it waits for.
func TestWaitHolds(t *testing.T) {
	first := func(c *coder) { c.array(7).ops(75).array(5).enter().ask("wait").say(1).ops(87).exit() }
	scripts(t, "its frames", crowd{}, "1*99=9 1:1 live=22 1*9=0 live=22 2*9=7 live=22 1*1=1 live=22 1*3=3 live=15 1*9=3 1:2 live=6", first, teller("notify"))
	drop := func(c *coder) { c.ops(1).member(179, "O", "o", anyType) }
	// O.o goes while the first waits for it. Nobody can tell it then.
	scripts(t, "the thing goes", crowd{}, "1*9=4 1:1 live=6 2*2=2 live=4 1*9=0 1:1 live=4", waiter(1, 1), drop)
	// It goes behind notify: who was told goes on.
	last := func(c *coder) {
		c.o().ops(75, 42, 194, 42).virtual(objectName, "notify", "()V").ops(42, 195, 1, 75)
		drop(c)
	}
	wait := func(c *coder) { c.enter().ask("wait").say(1) }
	scripts(t, "the thing goes, told", crowd{}, "1*9=4 2*6=6 1*9=0 2*2=2 live=6 2*4=4 live=4 1*1=1 1:0 live=4 1*9=3 1:2 out=1", wait, last)
	scripts(t, "the thing goes, told, with the lock had", crowd{}, "1*9=4 2*9=8 2:2 live=4 1*9=0 1:1", wait, func(c *coder) {
		c.enter().ask("notify")
		drop(c)
		c.ops(0)
	})
	held := func(c *coder) { c.o().ops(75, 42, 194, 42).virtual(objectName, "wait", "()V").ops(42, 195) }
	scripts(t, "in a local", crowd{}, "1*9=6 1:1 2*2=2 live=6 1*9=0 live=6", held, drop)
}

// A thread that is a thing waits for itself: it is held as long as it waits.
func TestWaitOfOneself(t *testing.T) {
	T := newBuilt(t, "T", threadName, open).maker().field(0, "list", "[I").method(api.Public, "run", "()V", 2, 1, func(c *coder) {
		c.ops(42, 194, 42, 1, 75).virtual(objectName, "wait", "()V").say(1).ops(177)
	})
	v := started(t, usual, plain(t, 4, 1, func(c *coder) {
		c.made("T").ops(75, 42).array(6).member(181, "T", "list", "[I").ops(42).start()
	}), T)
	ends(t, v)
	script(t, "for ever", v, "live=13 1*9=6 1:1 live=13 young 1*9=0 all 1*9=0 live=13")
	told := started(t, usual, plain(t, 4, 1, func(c *coder) {
		c.made("T").ops(75, 42).start().ops(42, 194, 42).virtual(objectName, "notifyAll", "()V").ops(42, 195, 42).join().say(2)
	}), T)
	for told.Threads() < 2 {
		told.Run(0, 1)
	}
	script(t, "told", told, "1*9=6 1:1 0*6=6 0*9=1 0*9=0 all 1*9=4 1:2 young 0*9=4 0:2 out=1,2 live=2")
}

// There is no room for anything while threads wait: they go on as ever.
func TestWaitWithoutRoom(t *testing.T) {
	full := func(c *coder) { c.enter().array(92).ops(75).ask("notifyAll").exit().ops(0) }
	scripts(t, "full", crowd{Options: Options{100, 20, 5}}, "1*9=4 2*9=9 live=100 1*1=1 1:0 1*9=5 1:2 live=100 2*9=2 live=6 out=1", waiter(1, 1), full)
}

// Things of Thread wait and tell as others; those that have ended or died are not told.
func TestNotifyWhoIsLeft(t *testing.T) {
	dies := func(c *coder) { c.enter().ask("wait").divide() }
	scripts(t, "ended and died", crowd{}, "1*9=4 2*9=4 3*9=4 4*9=9 4:2 2*9=4 2:3/ArithmeticException 1*9=0 1:1", waiter(1, 1), dies, waiter(1, 3), teller("notify", "notify"))
	scripts(t, "one has ended, the next is told", crowd{}, "1*9=4 2*9=4 3*9=7 1*9=6 1:2 2*9=0 4*9=7 2*9=6 2:2 out=1,2", waiter(1, 1), waiter(1, 2), teller("notify"), teller("notify"))
}
