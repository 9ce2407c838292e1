package code

import (
	"jvmcore/api"
	"jvmcore/wire"
)

// reader: reads instructions.
type reader struct {
	wire.Reader
}

// Decode: the instructions of s; or the error, and its place.
func Decode(s string) ([]api.Ins, api.Errno, int) {
	if len(s) == 0 || len(s) > maxLength {
		return nil, api.ErrLength, 0
	}
	r := reader{wire.NewReader(s)}
	var l []api.Ins
	for r.Good() && r.At() < len(s) {
		l = append(l, r.instruction())
	}
	if e, place := r.Err(); e != api.OK {
		return nil, e, place
	}
	if k := firstLost(l); k >= 0 {
		return nil, api.ErrTarget, l[k].At
	}
	return l, api.OK, 0
}

func (r *reader) instruction() api.Ins {
	i := api.Ins{At: r.At()}
	i.Op = r.Uint8()
	if i.Op == wide {
		i.Wide = true
		i.Op = r.Uint8()
	}
	switch k := kindOf(i.Op, i.Wide); k {
	case noInstruction:
		r.Fail(api.ErrOp, i.At)
	case tableSwitch:
		r.table(&i)
	case keySwitch:
		r.keys(&i)
	default:
		r.operands(&i, layoutOf(k))
	}
	return i
}

// operands: of an instruction that is no switch: they are looked at when all of them were read.
func (r *reader) operands(i *api.Ins, l layout) {
	i.A = r.operand(l.a)
	i.B = r.operand(l.b)
	zero := r.operand(l.zero)
	if l.to.size > 0 {
		i.Targets = []int{r.target(i.At, l.to)}
	}
	if !l.a.holds(i.A) || !l.b.holds(i.B) || !l.zero.holds(zero) {
		r.Fail(api.ErrOperand, i.At)
	}
}

func (r *reader) operand(f field) int {
	if f.low < 0 {
		return int(r.Signed(f.size))
	}
	return int(r.Number(f.size))
}

// target: of the instruction at a place.
func (r *reader) target(at int, f field) int {
	return at + r.operand(f)
}

// table: a switch by a table, behind its number.
func (r *reader) table(i *api.Ins) {
	r.others(i)
	i.Low = r.operand(word)
	high := r.operand(word)
	if i.Low > high {
		r.Fail(api.ErrOperand, i.At)
	}
	for key := i.Low; r.Good() && key <= high; key++ {
		i.Targets = append(i.Targets, r.target(i.At, word))
	}
}

// keys: a switch by keys, behind its number.
func (r *reader) keys(i *api.Ins) {
	r.others(i)
	count := r.operand(word)
	if count < 0 {
		r.Fail(api.ErrOperand, i.At)
	}
	for k := 0; r.Good() && k < count; k++ {
		i.Keys = append(i.Keys, r.operand(word))
		if k > 0 && i.Keys[k] <= i.Keys[k-1] {
			r.Fail(api.ErrOperand, i.At)
		}
		i.Targets = append(i.Targets, r.target(i.At, word))
	}
}

// others: how each switch begins: bytes 0, and the target of all other keys.
func (r *reader) others(i *api.Ins) {
	for r.Good() && r.At()%4 != 0 {
		if r.Uint8() != 0 {
			r.Fail(api.ErrOperand, i.At)
		}
	}
	i.Targets = append(i.Targets, r.target(i.At, word))
}
