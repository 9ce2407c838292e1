package vm

import "jvmcore/heap"

// lock: who has it, and how often it was taken. (Those of Synchronized methods are for chapter 12.)
type lock struct {
	by    *thread
	times int
}

// lockOf: the one that goes with a thing; nil if it was never taken.
func (v *VM) lockOf(thing heap.Ref) *lock {
	l, _ := v.things.Mark(thing).(*lock)
	return l
}

func (l *lock) isOf(t *thread) bool { return l != nil && l.by == t }

// enterLock: 194.
func (s step) enterLock(thing heap.Ref) stop {
	l := s.lockOf(thing)
	if l == nil {
		l = &lock{}
		s.things.SetMark(thing, l)
	}
	if l.by != nil && l.by != s.thread {
		return blocked
	}
	l.by = s.thread
	l.times++
	s.drop(1)
	return goesOn
}

// exitLock: 195.
func (s step) exitLock(thing heap.Ref) stop {
	l := s.lockOf(thing)
	if !l.isOf(s.thread) {
		return illegalMonitor
	}
	l.times--
	if l.times == 0 {
		l.by = nil
	}
	s.drop(1)
	return goesOn
}
