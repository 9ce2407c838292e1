package verify

import "jvmcore/api"

// Instructions by their numbers, where one stands alone.
const (
	opNull       = 1
	opSwap       = 95
	opIncrement  = 132
	opGoto       = 167
	opTable      = 170
	opKeys       = 171
	opGiveObject = 176
	opReturn     = 177
	opGetStatic  = 178
	opPutStatic  = 179
	opGetField   = 180
	opPutField   = 181
	opSpecial    = 183
	opStatic     = 184
	opNew        = 187
	opNewArray   = 188
	opNewObjects = 189
	opLength     = 190
	opThrow      = 191
	opCast       = 192
	opIs         = 193
	opNewDeep    = 197
	opIfNull     = 198
	opFarGoto    = 200
)

// isEnd: does code not go on behind it?
func isEnd(op uint8) bool {
	switch op {
	case opGoto, opTable, opKeys, opThrow, opFarGoto:
		return true
	}
	return 172 <= op && op <= opReturn
}

// do: what an instruction does to the state.
func (m *method) do(i api.Ins) {
	switch op := i.Op; {
	case op <= 20:
		m.constant(i)
	case op <= 45:
		m.loadLocal(i)
	case op <= 53:
		m.loadElement(int(op) - 46)
	case op <= 78:
		m.storeLocal(i)
	case op <= 86:
		m.storeElement(int(op) - 79)
	case op <= 95:
		m.shift(op)
	case op <= 131:
		m.reckon(op)
	case op == opIncrement:
		need(m.local(i.A) == intType)
	case op <= 152:
		m.convert(op)
	case op <= opKeys, op >= opIfNull:
		m.branch(i)
	case op <= opReturn:
		m.end(op)
	case op <= opPutField:
		m.field(op, m.memberAt(i.A))
	case op <= 185:
		m.call(op, m.memberAt(i.A))
	default:
		m.thing(i)
	}
}
