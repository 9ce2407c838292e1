package verify

import (
	"cmp"
	"slices"

	"jvmcore/api"
	"jvmcore/link"
)

// method: the one that is looked at, and the state at the place that was come to.
type method struct {
	*class
	state
	told   api.Method
	self   member
	list   []api.Ins
	frames map[int]frame // by their places
	thrown []api.VType   // of each handler: what comes to it
	passed []int         // of each handler: the turn of the state with which code went on there last
	at     int
}

// frame: the state at a place, as the map tells it.
type frame struct {
	api.Frame
	half bool
}

func newMethod(c *class, told api.Method) *method {
	self := newMember(c.signatureOf(told.Name, told.Type))
	return &method{class: c, told: told, self: self, frames: map[int]frame{}}
}

func (m *method) isStatic() bool {
	return m.told.Flags&api.Static != 0
}

func (m *method) isInit() bool {
	return m.self.name == initName
}

// instruction: the one of a place; false if none begins there.
func (m *method) instruction(place int) (api.Ins, bool) {
	k, found := slices.BinarySearchFunc(m.list, place, func(i api.Ins, place int) int { return cmp.Compare(i.At, place) })
	if !found {
		return api.Ins{}, false
	}
	return m.list[k], true
}

// mayStand: no method above may be Final that this one would stand for.
func (m *method) mayStand() {
	if m.told.Flags&(api.Static|api.Private) != 0 || m.isInit() {
		return
	}
	for x := range m.world.Above(m.this, m.self.name, m.self.of) {
		need(x.Flags&api.Final == 0 || !m.standsFor(x))
	}
}

// standsFor: would a method of this class be called where the one above is referred to?
func (m *method) standsFor(x api.Member) bool {
	if x.Flags&(api.Static|api.Private) != 0 {
		return false
	}
	return x.Flags&(api.Public|api.Protected) != 0 || link.SamePackage(x.Class, m.this)
}
