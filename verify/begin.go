package verify

import (
	"slices"

	"jvmcore/api"
	"jvmcore/code"
	"jvmcore/maps"
)

// begin: all that is looked at ahead of the first instruction.
func (m *method) begin() {
	m.list, _, _ = code.Decode(m.told.Code.Bytes) // a world has no code that cannot be decoded
	first := m.first()
	m.enter(newFrame(api.Frame{Locals: first}))
	need(len(m.locals) <= m.told.Code.MaxLocals)
	m.readMap(first)
	m.lookAtHandlers()
}

// first: the types of the locals with which the method begins.
func (m *method) first() []api.VType {
	var l []api.VType
	switch {
	case m.isStatic():
	case m.isInit():
		l = append(l, thisType)
	default:
		l = append(l, objectOf(m.this))
	}
	return append(l, m.self.takes...)
}

// newFrame: what is half made is in one of its locals.
func newFrame(f api.Frame) frame {
	return frame{f, slices.Contains(f.Locals, thisType)}
}

func (m *method) readMap(first []api.VType) {
	if m.told.Code.Map == "" {
		return
	}
	l, e, _ := maps.Read(m.told.Code.Map, m.Pool, first)
	if e != api.OK {
		leave(api.ErrMap)
	}
	for _, f := range l {
		if !m.holds(f) {
			leave(api.ErrMap)
		}
		m.frames[f.At] = newFrame(f)
	}
}

// holds: may the method have such a frame?
func (m *method) holds(f api.Frame) bool {
	_, begins := m.instruction(f.At)
	fit := slots(f.Locals...) <= m.told.Code.MaxLocals && slots(f.Stack...) <= m.told.Code.MaxStack
	return begins && fit && m.areMade(f.Locals) && m.areMade(f.Stack)
}

// areMade: is a thing made where each Fresh of these says?
func (m *method) areMade(l []api.VType) bool {
	for _, t := range l {
		if t.Tag != api.Fresh {
			continue
		}
		if i, begins := m.instruction(t.At); !begins || i.Op != opNew {
			return false
		}
	}
	return true
}

// lookAtHandlers: each takes what can be thrown.
func (m *method) lookAtHandlers() {
	for _, h := range m.told.Code.Handlers {
		name := throwableName
		if h.Type != 0 {
			name = m.classAt(int(h.Type))
		}
		need(m.below(name, throwableName))
		m.thrown = append(m.thrown, objectOf(name))
	}
	m.passed = make([]int, len(m.thrown))
}
