package vm

import (
	"fmt"
	"iter"
	"math/rand"
	"strings"
	"testing"

	"jvmcore/api"
)

// lockModel: who has it, and how often it was taken.
type lockModel struct {
	by    *threadModel
	times int
}

func (l *lockModel) letGo(th *threadModel) {
	if l.by != th {
		th.seen["not had when the frame is over"]++
		return
	}
	if l.times--; l.times == 0 {
		l.by = nil
	}
}

// more: a thread more.
func (w *worldModel) more(th *threadModel, c *classModel, f *frameModel) *threadModel {
	th.next, th.stop = iter.Pull(th.main(c, f))
	w.threads = append(w.threads, th)
	return th
}

// take: the lock, as soon as it is nobody's, or this thread's.
func (th *threadModel) take(l *lockModel, what string) {
	for l.by != nil && l.by != th {
		th.seen["another's: "+what]++
		th.ticks(false)
	}
	if l.by == th {
		th.seen["once more: "+what]++
	}
	l.by = th
	l.times++
}

// selected: the method of a thing of a class, and the class that has it; that of java/lang/Thread if none has.
func (w *worldModel) selected(class, name string) (*classModel, *bodyModel) {
	for c := w.classes[class]; c != nil; c = w.classes[c.super] {
		if b := c.bodies[name]; b != nil && b.flags&(api.Static|api.Private) == 0 {
			return c, b
		}
	}
	return nil, &bodyModel{list: []insModel{{op: "return"}}}
}

// guard: the lock of a Synchronized method is taken.
func (th *threadModel) guard(f *frameModel, c *classModel) {
	switch {
	case f.flags&api.Synchronized == 0:
		return
	case f.flags&api.Static != 0:
		f.lock = &c.lock
	default:
		f.held = f.locals[0]
		f.lock = &f.held.lock
	}
	th.take(f.lock, "method")
}

// ofThing: an instruction, or a method, that needs a thing: what it throws.
func (th *threadModel) ofThing(f *frameModel, op string) *thingModel {
	x := f.top(0).thing
	switch {
	case x == nil:
		return th.thrown("NullPointerException")
	case op == "enter":
		th.take(&x.lock, "194")
	case op == "start":
		if wrong := th.start(x); wrong != "" {
			th.seen["start: "+wrong]++
			return th.thrown(wrong)
		}
	case op == "join":
		for x.runs != nil && x.runs.state < ended {
			th.seen[fmt.Sprint("join: state ", x.runs.state)]++
			th.ticks(false)
		}
	case x.lock.by != th:
		th.seen[fmt.Sprint(op, " without the lock, somebody's ", x.lock.by != nil)]++
		return th.thrown("IllegalMonitorStateException")
	case op == "exit":
		x.lock.letGo(th)
	default:
		th.tell(&x.lock, op)
	}
	f.drop(1)
	return nil
}

func (th *threadModel) tell(l *lockModel, op string) {
	told := 0
	for _, other := range th.threads {
		if other.waits == l && !other.told && (told == 0 || op == "notifyAll") {
			other.told = true
			told++
		}
	}
	th.seen[fmt.Sprint(op, ": ", min(told, 2))]++
}

// wait: till it is told, and nobody has the lock.
func (th *threadModel) wait(f *frameModel) *thingModel {
	x := f.top(0).thing
	if x == nil {
		return th.thrown("NullPointerException")
	}
	if x.lock.by != th {
		return th.thrown("IllegalMonitorStateException")
	}
	f.drop(1)
	f.at++
	l, times := &x.lock, x.lock.times
	*l = lockModel{}
	th.state, th.waits = waiting, l
	th.seen[fmt.Sprint("wait: ", min(times, 3))]++
	th.ticks(true)
	for !th.told || l.by != nil {
		if th.told {
			th.seen["told, and another has the lock"]++
		}
		th.ticks(false)
	}
	*l = lockModel{th, times}
	th.state, th.waits, th.told = ready, nil, false
	th.seen["waits no longer"]++
	th.ticks(true)
	return nil
}

// start: a thread that is the thing; or what is thrown.
func (th *threadModel) start(x *thingModel) string {
	if x.runs != nil {
		return "IllegalThreadStateException"
	}
	_, body := th.selected(x.class, "run")
	if body.flags&(api.Native|api.Synchronized) != 0 {
		return "UnsatisfiedLinkError"
	}
	th.seen["started"]++
	f := &frameModel{bodyModel: body}
	f.locals[0] = x
	x.runs = th.more(&threadModel{worldModel: th.worldModel, self: x}, nil, f)
	return ""
}

// locking: a statement of threads and locks.
func locking(r *rand.Rand) string {
	of := pick(r, strings.Fields("load:0 load:0 load:0 load:0 load:1 getThing:K0 getThing:K0 getThing:K0 getThing:K0 getThing:K1 getThing:K1 getThing:K2"))
	class := pick(r, strings.Fields("K0 K0 K1 K2"))
	made := "new:" + class + " dup init:" + class
	switch r.Intn(20) {
	case 0:
		return of + pick(r, []string{" enter", " exit", " exit", " notify"})
	case 1:
		return pick(r, []string{"yield", "load:0 exit"})
	case 2, 3:
		return of + " cast:K0 virtual:K0"
	case 4:
		return "call:" + class
	case 5, 6:
		return made + " dup store:0 cast:" + threadName + " start" + pick(r, []string{"", " load:0 cast:" + threadName + " join"})
	case 7:
		return of + " cast:" + threadName + pick(r, []string{" start", " start", " join", " join", " join"})
	case 8, 9:
		return made + pick(r, []string{" store:0", " putThing:K0"})
	case 10:
		return of + pick(r, []string{" putThing:K0", " putThing:K1", " store:0", " store:0"})
	}
	inner := pick(r, []string{"push:77 print", "call:" + class, of + " cast:K0 virtual:K0", of + " wait", of + " wait", of + " wait", of + " notify", of + " notify", of + " notifyAll", of + " enter " + of + " wait " + of + " exit"})
	return of + " enter " + inner + " " + of + " exit"
}

// lockingBody: mostly of such statements. Things are not lost so soon in it.
func lockingBody(r *rand.Rand, first, last string, flags ...uint16) *bodyModel {
	b := bodyOf(r, r.Intn(4) > 0, first, pick(r, []string{"return", last}), func() string {
		switch r.Intn(14) {
		case 0:
			return throwing(r)
		case 1:
			return statement(r)
		}
		return locking(r)
	})
	b.flags = flags[r.Intn(len(flags))]
	for k, i := range b.list[1:] {
		if i.op == "store" && i.n == 0 && b.list[k].op == "null" {
			b.list[k].op, b.list[k].class = "getThing", pick(r, strings.Fields("K0 K1"))
		}
	}
	return b
}

// newThreadWorld: of classes whose static fields hold a thing of each, most of which are threads.
func newThreadWorld(r *rand.Rand) *worldModel {
	w := newWorld(r)
	w.limit = 100 + r.Intn(20) + r.Intn(2)*r.Intn(200)
	w.depth = []int{2 + r.Intn(6), 8 + r.Intn(8), 8, 12, 20}[r.Intn(5)]
	w.rounds, w.most = 500, 12
	w.classes["K0"].super = pick(r, []string{threadName, threadName, threadName, objectName})
	for k, super := range []string{w.classes["K0"].super, "K0", pick(r, []string{"K0", "K1", objectName})} {
		name := fmt.Sprint("K", k)
		c := &classModel{name: name, super: super, own: r.Intn(3) + r.Intn(4)/3*r.Intn(20), bodies: map[string]*bodyModel{}}
		w.classes[name] = c
		static := "getThing:K" + fmt.Sprint(r.Intn(3)) + " store:0 null store:1"
		c.bodies["<init>"] = &bodyModel{flags: api.Public, list: codeModel("load:0 init:" + super + " return")}
		c.bodies["<clinit>"] = &bodyModel{flags: api.Static, list: codeModel("new:" + name + " dup init:" + name + " putThing:" + name + " return")}
		c.bodies["main"] = lockingBody(r, static, "goto:-1", api.Static)
		c.bodies["m"] = lockingBody(r, static, "return", api.Static, api.Static|api.Synchronized)
		if k == 0 || r.Intn(3) == 0 {
			c.bodies["v"] = lockingBody(r, pick(r, []string{"null store:1", "null store:1", "null store:1 load:0 exit"}), "return", api.Public, api.Public|api.Synchronized)
		}
		if r.Intn(4) > 0 {
			b := lockingBody(r, "null store:1", "goto:-1", api.Public, api.Public, api.Public, api.Protected, 0, api.Synchronized, api.Native, api.Private, api.Static)
			if b.flags&api.Static != 0 {
				b = &bodyModel{flags: api.Static, list: codeModel("return")}
			}
			c.bodies["run"] = b
		}
	}
	w.measure("K0", "K1", "K2", "K3")
	return w
}

// Random programs of threads and locks.
func TestThreadModel(t *testing.T) {
	seen := map[string]int{}
	for seed := range int64(300) {
		r := rand.New(rand.NewSource(seed))
		newThreadWorld(r).check(t, fmt.Sprint("seed ", seed), r, seen)
	}
	cameUp(t, seen, "another's: 194", "another's: method", "once more: 194", "once more: method", "exit without the lock, somebody's true", "exit without the lock, somebody's false", "notify without the lock, somebody's true",
		"join: state 0", "join: state 1", "notify: 0", "notify: 1", "notifyAll: 0", "notifyAll: 1", "notifyAll: 2", "wait: 1", "wait: 2", "wait: 3", "told, and another has the lock", "waits no longer", "not had when the frame is over",
		"started", "start: IllegalThreadStateException", "start: UnsatisfiedLinkError", "taken: java/lang/OutOfMemoryError", "taken: java/lang/IllegalMonitorStateException", "no room for what is thrown")
}
