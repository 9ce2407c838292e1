package vm

import (
	"testing"

	"jvmcore/api"
)

// A lock is had till it was let go as often as it was taken, wherever the thing is moved to; others cannot go on till then.
func TestLocks(t *testing.T) {
	get := func(c *coder) *coder { return c.member(178, "A", "o", anyType) }
	first := newBuilt(t, "A", objectName, open).field(api.Static, "o", anyType).main(2, 0, func(c *coder) {
		c.made(objectName).member(179, "A", "o", anyType)
		get(c).ops(194)
		get(c).ops(194).say(1)
		get(c).ops(195).say(2)
		get(c).ops(195).say(3).ops(177)
	})
	second := newBuilt(t, "B", objectName, open).main(2, 0, func(c *coder) {
		get(c).ops(194).say(4)
		get(c).ops(195)
		get(c).here("a").ops(195).here("b").ops(177).taker("taken", 5).guard("a", "b", "taken", lang+"IllegalMonitorStateException")
	})
	v := started(t, usual, first, second)
	v.Start("B")
	step := func(want int) {
		t.Helper()
		v.Collect(true)
		runs(t, "the first", v, 0, 1, 1)
		runs(t, "the second", v, 1, 1, want)
		threadIs(t, "the second", v, 1, 0, "")
	}
	runs(t, "the first", v, 0, 1+4+1+2, 8) // return of its class's frame, and up to the first 194
	runs(t, "the second", v, 1, 9, 2)      // and its own, and up to 194
	for range 2 + 2 + 2 + 2 + 1 {          // 194 once more, 1; 195, 2; up to the last 195
		step(0)
	}
	outIs(t, "ahead of it", v, "1 2")
	step(1)
	for range 2 {
		step(1)
	}
	outIs(t, "behind it", v, "1 2 3 4")
	runs(t, "the first", v, 0, 9, 1)
	runs(t, "the second", v, 1, 99, 8)
	threadIs(t, "the second", v, 1, 2, "")
	outIs(t, "at the end", v, "1 2 3 4 5")
}

// The lock of another thread cannot be let go, and does not hold the thing.
func TestLocksOfOthers(t *testing.T) {
	a := newBuilt(t, "A", objectName, open).field(api.Static, "o", anyType).main(2, 0, func(c *coder) {
		c.array(5).ops(89, 194).member(179, "A", "o", anyType).ops(0, 0, 177)
	})
	b := newBuilt(t, "B", objectName, open).main(2, 0, func(c *coder) { c.member(178, "A", "o", anyType).ops(195, 177) })
	c := newBuilt(t, "C", objectName, open).main(2, 0, func(c *coder) { c.ops(1).member(179, "A", "o", anyType).ops(177) })
	v := started(t, usual, a, b, c)
	ends(t, v)
	v.Start("B")
	v.Run(1, 9)
	threadIs(t, "of another", v, 1, 3, lang+"IllegalMonitorStateException")
	if n := v.Live(); n != 2+7 {
		t.Errorf("%d words", n)
	}
	v.Start("C")
	v.Run(2, 9)
	if n := v.Live(); n != 2 {
		t.Errorf("%d words, when only its lock is had", n)
	}
}
