package vm

import (
	"jvmcore/api"
	"jvmcore/heap"
)

// The states of a thread.
const (
	ready = iota
	waiting
	ended
	died
)

// thread: data, that Run alone makes go on.
type thread struct {
	frames []*frame // none, when it is over
	state  int
	why    string   // the class of what it died of
	self   heap.Ref // the thing that it is, if it is one, till it is over
	waits  *lock    // that it waits for; the thing of it may have gone
	times  int      // how often it had taken that
	told   bool     // that it need not wait any longer
}

// last: the frame that runs.
func (t *thread) last() *frame { return t.frames[len(t.frames)-1] }

// leave: the last frame is over.
func (t *thread) leave() {
	last := len(t.frames) - 1
	if l := t.frames[last].lock; l != nil {
		l.letGo(t) // what 195 has let go already is not had
	}
	t.frames[last] = nil
	t.frames = t.frames[:last]
}

// finish: the thread is over, and holds nothing any more.
func (t *thread) finish(state int, why string) {
	t.state, t.why, t.self = state, why, heap.None
}

func (t *thread) isOver() bool { return t.state == ended || t.state == died }

// wait: for a lock that it has, till it is told.
func (t *thread) wait(l *lock) {
	t.state, t.waits, t.times = waiting, l, l.times
	*l = lock{}
}

// wake: it has the lock again and waits no longer; false if it was not told, or the lock is somebody's.
func (t *thread) wake() bool {
	if !t.told || t.waits.by != nil {
		return false
	}
	*t.waits = lock{t, t.times}
	t.state, t.waits, t.times, t.told = ready, nil, 0, false
	return true
}

// ofThread: the methods of java/lang/Thread.
func (s step) ofThread(name string) stop {
	switch name {
	case "start":
		return s.startThing()
	case "join":
		return s.join()
	}
	return goesOn
}

// startThing: a thread more, that is the thing.
func (s step) startThing() stop {
	self := s.top(0, 1).ref
	c := s.companyOf(self)
	if c.thread != nil {
		return illegalThreadState
	}
	run, e := s.selected(s.class(threadName).methods[signature{"run", "()V"}], s.kindOf(self).name)
	switch {
	case e != api.OK:
		return ofLink(e)
	case run.is(api.Native | api.Synchronized):
		return unsatisfiedLink
	}
	c.thread = &thread{frames: []*frame{newFrame(run, value{ref: self})}, self: self}
	s.threads = append(s.threads, c.thread)
	s.drop(1)
	return goesOn
}

func (s step) join() stop {
	t := s.companyOf(s.top(0, 1).ref).thread
	if t != nil && !t.isOver() {
		return blocked
	}
	s.drop(1)
	return goesOn
}
