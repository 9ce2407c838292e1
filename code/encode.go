package code

import (
	"jvmcore/api"
	"jvmcore/wire"
)

// Encode: instructions as bytes, and 0; or the error, and the number of the instruction.
func Encode(l []api.Ins) (string, api.Errno, int) {
	if len(l) == 0 {
		return "", api.ErrLength, 0
	}
	var b []byte
	for k, i := range l {
		if e := wrongIns(i, len(b)); e != api.OK {
			return "", e, k
		}
		b = appendIns(b, i)
		if len(b) > maxLength {
			return "", api.ErrLength, k
		}
	}
	if k := firstLost(l); k >= 0 {
		return "", api.ErrTarget, k
	}
	return string(b), api.OK, 0
}

// wrongIns: what is wrong with an instruction that stands at a place.
func wrongIns(i api.Ins, at int) api.Errno {
	k := kindOf(i.Op, i.Wide)
	switch {
	case i.At != at:
		return api.ErrTarget
	case k == noInstruction:
		return api.ErrOp
	case !hasOperands(i, k):
		return api.ErrOperand
	}
	return api.OK
}

// hasOperands: can the bytes of its kind have the operands of an instruction?
func hasOperands(i api.Ins, k kind) bool {
	switch k {
	case tableSwitch:
		return hasTable(i) && hasTargets(i, word)
	case keySwitch:
		return hasKeys(i) && hasTargets(i, word)
	}
	l := layoutOf(k)
	targets := 0
	if l.to.size > 0 {
		targets = 1
	}
	return l.a.holds(i.A) && l.b.holds(i.B) && len(i.Targets) == targets && hasTargets(i, l.to)
}

// hasTable: are there keys, and are they words, from the lowest to the highest?
func hasTable(i api.Ins) bool {
	above := len(i.Targets) - 2 // keys above the lowest
	return above >= 0 && word.holds(i.Low) && word.holds(i.Low+above)
}

// hasKeys: are the keys as many as they must be, and words that rise?
func hasKeys(i api.Ins) bool {
	if len(i.Targets) != len(i.Keys)+1 {
		return false
	}
	for k, key := range i.Keys {
		if !word.holds(key) || k > 0 && key <= i.Keys[k-1] {
			return false
		}
	}
	return true
}

// hasTargets: are all targets in reach?
func hasTargets(i api.Ins, to field) bool {
	for _, target := range i.Targets {
		if !to.holds(target - i.At) {
			return false
		}
	}
	return true
}

// appendIns: b, and behind it an instruction with which nothing is wrong.
func appendIns(b []byte, i api.Ins) []byte {
	if i.Wide {
		b = append(b, wide)
	}
	b = append(b, i.Op)
	switch k := kindOf(i.Op, i.Wide); k {
	case tableSwitch, keySwitch:
		return appendSwitch(b, i, k)
	default:
		return appendOperands(b, i, layoutOf(k))
	}
}

// appendOperands: those of an instruction that is no switch.
func appendOperands(b []byte, i api.Ins, l layout) []byte {
	b = appendNumbers(b, l.a, i.A)
	b = appendNumbers(b, l.b, i.B)
	b = appendNumbers(b, l.zero, 0)
	for _, target := range i.Targets {
		b = appendNumbers(b, l.to, target-i.At)
	}
	return b
}

// appendSwitch: a switch, behind its number.
func appendSwitch(b []byte, i api.Ins, k kind) []byte {
	for len(b)%4 != 0 {
		b = append(b, 0)
	}
	targets := i.Targets[1:]
	b = appendNumbers(b, word, i.Targets[0]-i.At)
	if k == tableSwitch {
		b = appendNumbers(b, word, i.Low, i.Low+len(targets)-1)
	} else {
		b = appendNumbers(b, word, len(targets))
	}
	for n, target := range targets {
		if k == keySwitch {
			b = appendNumbers(b, word, i.Keys[n])
		}
		b = appendNumbers(b, word, target-i.At)
	}
	return b
}

// appendNumbers: each in as many bytes as the field has.
func appendNumbers(b []byte, f field, numbers ...int) []byte {
	for _, x := range numbers {
		b = wire.Append(b, f.size, uint64(x))
	}
	return b
}
