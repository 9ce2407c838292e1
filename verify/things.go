package verify

import "jvmcore/api"

// branch: 153 to 171, 198 to 200.
func (m *method) branch(i api.Ins) {
	switch op := i.Op; {
	case op <= 158, op == opTable, op == opKeys:
		m.take(intType)
	case op <= 164:
		m.take(intType, intType)
	case op <= 166:
		m.takeReference()
		m.takeReference()
	case op == opGoto, op == opFarGoto:
	default:
		m.takeReference()
	}
	for _, target := range i.Targets {
		m.goOn(target, m.stack...)
	}
}

// end: 172 to 177: the method is over.
func (m *method) end(op uint8) {
	need(!m.isInit() || !m.half)
	gives := m.self.gives
	if op == opReturn {
		need(len(gives) == 0)
		return
	}
	need(len(gives) == 1)
	if op == opGiveObject {
		need(gives[0].Tag == api.Object)
	} else {
		need(gives[0] == number(int(op)-172))
	}
	m.take(gives...)
}

// field: 178 to 181.
func (m *method) field(op uint8, x member) {
	switch op {
	case opGetStatic:
		m.give(x.gives...)
	case opPutStatic:
		m.take(x.gives...)
	case opGetField:
		m.take(x.class)
		m.give(x.gives...)
	case opPutField:
		m.take(x.gives...)
		m.takeHolder(x)
	}
}

// takeHolder: the thing whose field is set. What is not made yet may have its own fields set.
func (m *method) takeHolder(x member) {
	t := m.pop()
	if t != thisType {
		m.fit(t, x.class)
		return
	}
	_, own := m.fields[x.signature]
	need(own && x.class.Name == m.this)
}

// call: 182 to 185.
func (m *method) call(op uint8, x member) {
	m.take(x.takes...)
	switch {
	case op == opStatic:
	case op != opSpecial:
		m.take(x.class)
	case x.name == initName:
		m.makeThing(x)
	default:
		m.takeSelf(x)
	}
	m.give(x.gives...)
}

// takeSelf: the thing of which a method of this class, or of one above it, is called as it stands there.
func (m *method) takeSelf(x member) {
	need(m.below(m.this, x.class.Name))
	need(x.class.Name == m.this || !m.world.Interface(x.class.Name))
	m.take(objectOf(m.this))
}

// makeThing: what was Fresh is a thing of its class behind <init>.
func (m *method) makeThing(x member) {
	t := m.pop()
	switch t.Tag {
	case api.FreshThis:
		need(x.class.Name == m.this || x.class.Name == m.super)
		m.half = false
		m.swap(t, objectOf(m.this))
	case api.Fresh:
		i, _ := m.instruction(t.At)
		need(x.class.Name == m.classAt(i.A))
		m.swap(t, x.class)
	default:
		leave(api.ErrVerify)
	}
}

// kindSigns: the descriptors of values, in the order in which 188 tells them.
const (
	kindSigns = "ZCFDBSIJ"
	firstKind = 4
)

// thing: 187 to 197.
func (m *method) thing(i api.Ins) {
	switch i.Op {
	case opNew:
		m.newThing()
	case opNewArray:
		m.take(intType)
		k := i.A - firstKind
		m.give(objectOf("[" + kindSigns[k:k+1]))
	case opNewObjects:
		m.take(intType)
		m.give(m.arrayOf(i.A))
	case opLength:
		m.takeArray(allSigns)
		m.give(intType)
	case opThrow:
		m.take(objectOf(throwableName))
	case opCast:
		m.take(objectOf(objectName))
		m.give(objectOf(m.classAt(i.A)))
	case opIs:
		m.take(objectOf(objectName))
		m.give(intType)
	case opNewDeep:
		for range i.B {
			m.take(intType)
		}
		m.give(objectOf(m.classAt(i.A)))
	default: // monitors
		m.takeReference()
	}
}

// newThing: what was made at this place the last time can be told from the new one no more.
func (m *method) newThing() {
	t := api.VType{Tag: api.Fresh, At: m.at}
	need(!m.onStack(t))
	swapIn(m.locals, t, topType)
	m.turn++
	m.give(t)
}
