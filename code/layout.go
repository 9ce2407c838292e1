package code

import "math"

// kind: what stands behind an instruction's number.
type kind int

const (
	noInstruction kind = iota
	noOperand
	signedByte
	signedTwo
	byteIndex
	twoByteIndex
	local
	wideLocal
	increment
	wideIncrement
	branch
	farBranch
	interfaceCall
	plainArray
	deepArray
	tableSwitch
	keySwitch
)

// field: an operand: how many bytes it has, and from where to where it may go. One of no bytes is not there.
type field struct {
	size, low, high int
}

// holds: may the operand be x?
func (f field) holds(x int) bool {
	return f.size == 0 || f.low <= x && x <= f.high
}

// layout: the operands of an instruction that is no switch, in the order of their bytes: A; B; one that is always 0; the target, less At.
type layout struct {
	a, b, zero, to field
}

// word: each number of a switch.
var word = field{4, math.MinInt32, math.MaxInt32}

// layoutOf: of a kind.
func layoutOf(k kind) layout {
	switch k {
	case signedByte:
		return layout{a: field{1, math.MinInt8, math.MaxInt8}}
	case signedTwo:
		return layout{a: field{2, math.MinInt16, math.MaxInt16}}
	case byteIndex, local:
		return layout{a: field{1, 0, math.MaxUint8}}
	case twoByteIndex, wideLocal:
		return layout{a: field{2, 0, math.MaxUint16}}
	case increment:
		return layout{a: field{1, 0, math.MaxUint8}, b: field{1, math.MinInt8, math.MaxInt8}}
	case wideIncrement:
		return layout{a: field{2, 0, math.MaxUint16}, b: field{2, math.MinInt16, math.MaxInt16}}
	case branch:
		return layout{to: field{2, math.MinInt16, math.MaxInt16}}
	case farBranch:
		return layout{to: word}
	case interfaceCall:
		return layout{a: field{2, 0, math.MaxUint16}, b: field{1, 1, math.MaxUint8}, zero: field{1, 0, 0}}
	case plainArray:
		return layout{a: field{1, 4, 11}}
	case deepArray:
		return layout{a: field{2, 0, math.MaxUint16}, b: field{1, 1, math.MaxUint8}}
	}
	return layout{}
}

// kindOf: of an instruction that is wide, or not.
func kindOf(op uint8, isWide bool) kind {
	k := narrowKind(op)
	if !isWide {
		return k
	}
	switch k {
	case local:
		return wideLocal
	case increment:
		return wideIncrement
	}
	return noInstruction
}

// narrowKind: of an instruction that is not wide.
func narrowKind(op uint8) kind {
	switch {
	case op == 16:
		return signedByte
	case op == 17:
		return signedTwo
	case op == 18:
		return byteIndex
	case op == 19, op == 20, within(op, 178, 184), op == 187, op == 189, op == 192, op == 193:
		return twoByteIndex
	case within(op, 21, 25), within(op, 54, 58):
		return local
	case op == 132:
		return increment
	case within(op, 153, 167), op == 198, op == 199:
		return branch
	case op == 200:
		return farBranch
	case op == 170:
		return tableSwitch
	case op == 171:
		return keySwitch
	case op == 185:
		return interfaceCall
	case op == 188:
		return plainArray
	case op == 197:
		return deepArray
	case op == 168, op == 169, op == 186, op == wide, op > 200:
		return noInstruction
	}
	return noOperand
}

// within: is op one of those from low to high?
func within(op, low, high uint8) bool {
	return low <= op && op <= high
}
