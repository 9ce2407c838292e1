package vm

import "jvmcore/api"

// Instructions by their numbers, where one stands alone.
const (
	opNull         = 1
	opWideConstant = 20
	opIncrement    = 132
	opTable        = 170
	opKeys         = 171
	opGiveInt      = 172
	opReturn       = 177
	opGetStatic    = 178
	opPutStatic    = 179
	opGetField     = 180
	opPutField     = 181
	opSpecial      = 183
	opStatic       = 184
	opInterface    = 185
	opNew          = 187
	opNewArray     = 188
	opNewObjects   = 189
	opLength       = 190
	opThrow        = 191
	opCast         = 192
	opIs           = 193
	opEnter        = 194
	opNewDeep      = 197
	opIfNull       = 198
	opIfThing      = 199
)

// step: of a thread, in its last frame.
type step struct {
	*VM
	*thread
	*frame
}

// goOn: by one step; false if the thread cannot.
func (v *VM) goOn(t *thread) bool {
	switch {
	case t.isOver():
		return false
	case t.state == waiting:
		return t.wake()
	}
	s := step{v, t, t.last()}
	return s.end(s.run())
}

// run: the instruction, and ahead of the first one the class that must be initialised.
func (s step) run() stop {
	if s.needs != nil {
		if x := s.initialise(s.needs); x != goesOn {
			return x
		}
		s.needs = nil
	}
	return s.do(s.method.list[s.at])
}

// end: of a step; false if it was none.
func (s step) end(x stop) bool {
	switch x {
	case goesOn:
		s.at++
	case stays:
	case blocked:
		return false
	default:
		s.throw(s.thingOf(x))
	}
	return true
}

// do: what an instruction does. What it takes is on the stack till it is sure that nothing is thrown.
func (s step) do(i api.Ins) stop {
	switch op := i.Op; {
	case op <= 20:
		return s.constants(i)
	case op <= 45:
		return s.loadLocal(i)
	case op <= 53:
		return s.loadElement(int(op) - 46)
	case op <= 78:
		return s.storeLocal(i)
	case op <= 86:
		return s.storeElement(int(op) - 79)
	case op <= 95:
		return s.shift(op)
	case op <= 131:
		return s.reckon(op)
	case op == opIncrement:
		return s.increment(i)
	case op <= 152:
		return s.convert(op)
	case op <= opKeys, op >= opIfNull:
		return s.branch(i)
	case op <= opReturn:
		return s.giveBack(op)
	case op <= opPutField:
		return s.field(i)
	case op <= opInterface:
		return s.call(i)
	}
	return s.thing(i)
}
