package verify

import "jvmcore/api"

// run: each instruction, in order.
func (m *method) run() {
	comes := true
	for _, i := range m.list {
		m.at = i.At
		m.arrive(comes)
		m.passHandlers()
		m.do(i)
		comes = !isEnd(i.Op)
	}
	need(!comes)
}

// arrive: at the place, where code comes from ahead, or not.
func (m *method) arrive(comes bool) {
	f, has := m.frames[m.at]
	need(has || comes)
	if !has {
		return
	}
	if comes {
		m.goOn(m.at, m.stack...)
	}
	m.enter(f)
}

// goOn: code goes on at a place, with the locals as they are, and these on the stack.
func (m *method) goOn(place int, stack ...api.VType) {
	f, has := m.frames[place]
	need(has)
	need(f.half || !m.half)
	slot := 0
	for _, t := range f.Locals { // behind these, and behind a wide one, is Top, which all fit
		m.fit(m.local(slot), t)
		slot += slots(t)
	}
	need(len(stack) == len(f.Stack))
	for k, t := range f.Stack {
		m.fit(stack[k], t)
	}
}

// passHandlers: code goes on at each in whose reach the place is. Most instructions change no local: what went on ahead of one goes on behind it.
func (m *method) passHandlers() {
	for k, h := range m.told.Code.Handlers {
		if m.at < h.From || m.at >= h.To || m.passed[k] == m.turn {
			continue
		}
		need(m.told.Code.MaxStack > 0)
		m.goOn(h.Target, m.thrown[k])
		m.passed[k] = m.turn
	}
}

// take: these are on the stack, the last at its top.
func (m *method) take(l ...api.VType) {
	for k := len(l) - 1; k >= 0; k-- {
		m.fit(m.pop(), l[k])
	}
}

// give: these are on the stack now.
func (m *method) give(l ...api.VType) {
	m.stack = append(m.stack, l...)
	m.height += slots(l...)
	need(m.height <= m.told.Code.MaxStack)
}

// takeArray: one whose elements have descriptors that begin with one of these signs; or Null.
func (m *method) takeArray(signs string) api.VType {
	t := m.pop()
	need(t == nullType || isArrayOf(t, signs))
	return t
}
