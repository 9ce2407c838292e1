package vm

import (
	"fmt"
	"math/rand"
	"strings"
	"testing"

	"jvmcore/api"
)

// counted: class C with a counter n, and once()V, which makes it one greater under a lock (or under none); T, a thread that does so as often as the static field rounds tells; and A, whose main starts so many, joins them, and prints the counter.
func counted(t *testing.T, lock string, threads, rounds int) []*built {
	add := func(c *coder) *coder { return c.member(178, "C", "n", "I").ops(4, 96).member(179, "C", "n", "I") }
	c := newBuilt(t, "C", objectName, open).maker().field(api.Static, "n", "I").field(api.Static, "c", "LC;")
	c.starts(2, 0, func(c *coder) { c.made("C").member(179, "C", "c", "LC;") })
	get := func(c *coder) *coder { return c.member(178, "C", "c", "LC;") }
	once := func(c *coder) { c.static("C", "once", "()V") }
	switch lock {
	case "194":
		c.method(api.Static, "once", "()V", 2, 0, func(c *coder) { add(get(c).ops(194)).member(178, "C", "c", "LC;").ops(195, 177) })
	case "class":
		c.method(syncStatic, "once", "()V", 2, 0, func(c *coder) { add(c).ops(177) })
	case "thing":
		c.method(syncOpen, "once", "()V", 2, 1, func(c *coder) { add(c).ops(177) })
		once = func(c *coder) { get(c).virtual("C", "once", "()V") }
	default:
		c.method(api.Static, "once", "()V", 2, 0, func(c *coder) { add(c).ops(177) })
	}
	T := newBuilt(t, "T", threadName, open).maker().method(api.Public, "run", "()V", 2, 2, func(c *coder) {
		if rounds == 1 {
			once(c)
			c.ops(177)
			return
		}
		c.ops(16, byte(rounds), 60).mark("more", []api.VType{obj("T"), intT})
		once(c)
		c.ops(132, 1, 255, 27).jump(157, "more").ops(177)
	})
	a := newBuilt(t, "A", objectName, open).main(4, threads, func(c *coder) {
		c.member(178, "C", "n", "I").ops(87)
		for k := range threads {
			c.made("T").ops(89, 58, byte(k)).start()
		}
		for k := range threads {
			c.ops(25, byte(k)).join()
		}
		c.member(178, "C", "n", "I").print("I").ops(177)
	})
	return []*built{a, c, T}
}

// schedules: all of the threads from first on, a step at a time, each to the end, where none of them can go on; how many there are.
func schedules(begin func() *VM, first int, over func(v *VM)) int {
	var path []int
	count := 0
	for {
		v := begin()
		went := true
		for _, n := range path {
			went = v.Run(n, 1) == 1
		}
		for went {
			n := first
			for n < v.Threads() && v.Run(n, 1) == 0 {
				n++
			}
			if n == v.Threads() {
				over(v)
				count++
				break
			}
			path = append(path, n)
		}
		last := len(path) - 1
		for last >= 0 && path[last] == v.Threads()-1 {
			last--
		}
		if last < 0 {
			return count
		}
		path = path[:last+1]
		path[last]++
	}
}

// Every schedule of a locked counter is serial: all of two threads that go round once. Without a lock some are not.
func TestEverySchedule(t *testing.T) {
	for _, lock := range []string{"194", "class", "thing", "none"} {
		t.Run(lock, func(t *testing.T) {
			t.Parallel()
			l := counted(t, lock, 2, 1)
			answers := map[string]int{}
			n := schedules(func() *VM {
				v := started(t, usual, l...)
				v.Run(0, 999)
				return v
			}, 1, func(v *VM) {
				v.Run(0, 99)
				s, _, _ := v.Thread(0)
				answers[fmt.Sprint(s, v.Out())]++
			})
			switch {
			case n < 10:
				t.Errorf("only %d schedules", n)
			case lock == "none" && (len(answers) != 2 || answers["2 [1]"] == 0 || answers["2 [2]"] == 0):
				t.Errorf("without a lock: %v", answers)
			case lock != "none" && (len(answers) != 1 || answers["2 [2]"] != n):
				t.Errorf("%v of %d", answers, n)
			}
		})
	}
}

// anyOrder: the threads are run in a random order, by a few steps each time, and is collected at random, till all are over; false if none can go on.
func anyOrder(r *rand.Rand, v *VM) bool {
	for idle := 0; idle < 1000; idle++ {
		if v.Run(r.Intn(v.Threads()), 1+r.Intn(6)) > 0 {
			idle = 0
		}
		switch r.Intn(12) {
		case 0:
			v.Collect(true)
		case 1:
			v.Collect(false)
		}
		over := 0
		for n := range v.Threads() {
			if s, _, _ := v.Thread(n); s >= 2 {
				over++
			}
		}
		if over == v.Threads() {
			return true
		}
	}
	return false
}

// So are those of more threads that go round more often, as far as a random order comes.
func TestRandomSchedules(t *testing.T) {
	less := 0
	for seed := range int64(240) {
		r := rand.New(rand.NewSource(seed))
		lock := []string{"194", "class", "thing", "none"}[seed%4]
		threads, rounds := 1+r.Intn(6), 1+r.Intn(9)
		v := started(t, Options{100 + r.Intn(100), 20 + r.Intn(80), 4 + r.Intn(5)}, counted(t, lock, threads, rounds)...)
		if !anyOrder(r, v) {
			t.Fatalf("seed %d: %s: none can go on", seed, lock)
		}
		got, want := strings.Join(v.Out(), " "), fmt.Sprint(threads*rounds)
		switch {
		case lock == "none" && got != want:
			less++
		case got != want:
			t.Errorf("seed %d: %s: %s, want %s", seed, lock, got, want)
		}
		if n := v.Live(); n != 4 { // what is there always, and C.c
			t.Errorf("seed %d: %d words at the end", seed, n)
		}
	}
	if less < 10 {
		t.Errorf("without a lock the counter was less only %d times", less)
	}
}

// exchanged: class C with put()V and take()V, Synchronized methods that wait till there is nothing, or something; P and Q, threads that put and take so often; main starts so many of each, joins them, and prints how much was taken.
func exchanged(t *testing.T, threads, rounds int) []*built {
	c := newBuilt(t, "C", objectName, open).maker().field(api.Static, "c", "LC;").field(api.Static, "taken", "I").field(0, "full", "Z").field(0, "held", "[I")
	c.starts(2, 0, func(c *coder) { c.made("C").member(179, "C", "c", "LC;") })
	locals := []api.VType{obj("C")}
	turn := func(c *coder, waits byte, full byte) *coder {
		c.mark("again", locals).ops(42).member(180, "C", "full", "Z").jump(waits, "on").ops(42).virtual("C", "wait", "()V").jump(167, "again")
		c.mark("on", locals).ops(42, full).member(181, "C", "full", "Z")
		return c.ops(42).virtual("C", "notifyAll", "()V")
	}
	c.method(syncOpen, "put", "()V", 3, 1, func(c *coder) {
		turn(c, 153, 4).ops(42).array(5).member(181, "C", "held", "[I").ops(177)
	})
	c.method(syncOpen, "take", "()V", 3, 1, func(c *coder) {
		turn(c, 154, 3).ops(42).member(180, "C", "held", "[I").ops(190).member(178, "C", "taken", "I").ops(96).member(179, "C", "taken", "I").ops(42, 1).member(181, "C", "held", "[I").ops(177)
	})
	loop := func(name, call string) *built {
		return newBuilt(t, name, threadName, open).maker().method(api.Public, "run", "()V", 2, 2, func(c *coder) {
			c.ops(16, byte(rounds), 60).mark("more", []api.VType{obj(name), intT}).member(178, "C", "c", "LC;").virtual("C", call, "()V")
			c.ops(132, 1, 255, 27).jump(157, "more").ops(177)
		})
	}
	a := newBuilt(t, "A", objectName, open).main(4, 2*threads, func(c *coder) {
		for k := range 2 * threads {
			c.made([]string{"P", "Q"}[k%2]).ops(89, 58, byte(k)).start()
		}
		for k := range 2 * threads {
			c.ops(25, byte(k)).join()
		}
		c.member(178, "C", "taken", "I").print("I").ops(177)
	})
	return []*built{a, c, loop("P", "put"), loop("Q", "take")}
}

// What some put and others take comes through whole, and nobody waits for ever.
func TestExchanged(t *testing.T) {
	waited := 0
	for seed := range int64(100) {
		r := rand.New(rand.NewSource(seed))
		threads, rounds := 1+r.Intn(3), 1+r.Intn(6)
		v := started(t, Options{100 + r.Intn(100), 20 + r.Intn(80), 5}, exchanged(t, threads, rounds)...)
		for range 200 {
			v.Run(r.Intn(v.Threads()), 1+r.Intn(20))
			for n := range v.Threads() {
				if s, _, _ := v.Thread(n); s == 1 {
					waited++
				}
			}
		}
		if !anyOrder(r, v) {
			t.Fatalf("seed %d: none can go on", seed)
		}
		if got, want := strings.Join(v.Out(), " "), fmt.Sprint(5*threads*rounds); got != want || v.Live() != 2+4 {
			t.Errorf("seed %d: %s, want %s; %d words", seed, got, want, v.Live())
		}
	}
	if waited < 100 {
		t.Errorf("threads waited only %d times", waited)
	}
}
