package vm

import (
	"jvmcore/api"
	"jvmcore/heap"
)

// lock: who has it, and how often it was taken.
type lock struct {
	by    *thread
	times int
}

// take: once more; false if it is another's.
func (l *lock) take(t *thread) bool {
	if l.by != nil && l.by != t {
		return false
	}
	l.by = t
	l.times++
	return true
}

// letGo: once; false if the thread has it not.
func (l *lock) letGo(t *thread) bool {
	if l.by != t {
		return false
	}
	l.times--
	if l.times == 0 {
		l.by = nil
	}
	return true
}

// company: what goes with a thing, wherever it moves, and needs no room in the heap.
type company struct {
	lock   lock
	thread *thread // that the thing is, if it was started
}

// companyOf: of a thing.
func (v *VM) companyOf(thing heap.Ref) *company {
	if c, had := v.things.Mark(thing).(*company); had {
		return c
	}
	c := &company{}
	v.things.SetMark(thing, c)
	return c
}

func (v *VM) lockOf(thing heap.Ref) *lock { return &v.companyOf(thing).lock }

// enterLock: 194.
func (s step) enterLock(thing heap.Ref) stop {
	if !s.lockOf(thing).take(s.thread) {
		return blocked
	}
	s.drop(1)
	return goesOn
}

// exitLock: 195.
func (s step) exitLock(thing heap.Ref) stop {
	if !s.lockOf(thing).letGo(s.thread) {
		return illegalMonitor
	}
	s.drop(1)
	return goesOn
}

// guard: the frame of a Synchronized method has its lock from now on; false if that is another's.
func (s step) guard(f *frame) bool {
	f.lock = &f.method.class.lock
	if !f.method.is(api.Static) {
		f.held = f.local(0).ref
		f.lock = s.lockOf(f.held)
	}
	return f.lock.take(s.thread)
}

// ofObject: the methods of java/lang/Object, which need the lock of the thing.
func (s step) ofObject(name string) stop {
	l := s.lockOf(s.top(0, 1).ref)
	if l.by != s.thread {
		return illegalMonitor
	}
	s.drop(1)
	switch name {
	case "wait":
		s.wait(l)
	case "notify":
		s.tell(l, 1)
	case "notifyAll":
		s.tell(l, len(s.threads))
	}
	return goesOn
}

// tell: so many threads that wait for a lock, of the lowest numbers, and were not told yet.
func (v *VM) tell(l *lock, most int) {
	for _, t := range v.threads {
		if most > 0 && t.waits == l && !t.told {
			t.told = true
			most--
		}
	}
}
