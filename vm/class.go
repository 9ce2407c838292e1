package vm

import (
	"jvmcore/api"
	"jvmcore/code"
	"jvmcore/consts"
	"jvmcore/desc"
)

// Names that the chapters tell.
const (
	objectName = lang + "Object"
	stringName = lang + "String"
	threadName = lang + "Thread"
	outName    = "jvm/Out"
	initName   = "<init>"
	clinitName = "<clinit>"
)

// class: one that code has come to.
type class struct {
	consts.Pool
	name, super string
	flags       uint16
	state       int
	by          *thread // that initialises it
	lock        lock
	methods     map[signature]*method
	told        []api.Field       // its static fields
	places      map[signature]int // of these, in statics
	statics     []value           // none till it is initialised
	fields      map[int]*field    // what indexes of the pool were found to lead to: that stays as it is
	calls       map[int]*called
}

// signature: name and descriptor of a member.
type signature struct {
	name, of string
}

// method: of a class.
type method struct {
	api.Member
	class    *class
	code     api.Code
	list     []api.Ins // made when it is first needed, as the handlers are; targets are numbers in it
	handlers []handler
	slots    int // of what it takes, its thing among it
	gives    string
}

// class: of a name that is one of the world's.
func (v *VM) class(name string) *class {
	if c, had := v.classes[name]; had {
		return c
	}
	file, _ := v.world.File(name)
	c := &class{
		Pool:    file.Pool,
		name:    name,
		flags:   file.Flags,
		methods: map[signature]*method{},
		places:  map[signature]int{},
		fields:  map[int]*field{},
		calls:   map[int]*called{},
	}
	c.super, _ = c.Class(int(file.Super))
	for _, f := range file.Fields {
		c.addField(f)
	}
	for _, m := range file.Methods {
		c.addMethod(m)
	}
	if v.world.First(name) {
		c.state = initialised
	}
	v.classes[name] = c
	return c
}

func (c *class) signatureOf(name, of uint16) signature {
	var s signature
	s.name, _ = c.Text(int(name))
	s.of, _ = c.Text(int(of))
	return s
}

// addField: those of things are told by their layouts.
func (c *class) addField(told api.Field) {
	if told.Flags&api.Static != 0 {
		c.places[c.signatureOf(told.Name, told.Type)] = len(c.told)
		c.told = append(c.told, told)
	}
}

func (c *class) addMethod(told api.Method) {
	s := c.signatureOf(told.Name, told.Type)
	takes, gives, _ := desc.Method(s.of)
	m := &method{
		Member: api.Member{Class: c.name, Name: s.name, Type: s.of, Flags: told.Flags},
		class:  c,
		code:   told.Code,
		slots:  slotsOf(takes...),
		gives:  gives,
	}
	if !m.is(api.Static) {
		m.slots++
	}
	c.methods[s] = m
}

func (c *class) is(flags uint16) bool { return c.flags&flags != 0 }

func (m *method) is(flags uint16) bool { return m.Flags&flags != 0 }

// mayStart: may a thread begin with it?
func (m *method) mayStart() bool {
	return m.is(api.Static) && !m.is(api.Synchronized) && m.code.Bytes != ""
}

// starter: the method that initialises a class.
func (c *class) starter() *method {
	if m, has := c.methods[signature{clinitName, "()V"}]; has {
		return m
	}
	return &method{class: c, code: api.Code{Bytes: string([]byte{opReturn})}}
}

// instructions: of the method, with the numbers of instructions instead of their places as targets.
func (m *method) instructions() []api.Ins {
	if m.list != nil {
		return m.list
	}
	m.list, _, _ = code.Decode(m.code.Bytes) // a world has no code that cannot be decoded
	numbers := make(map[int]int, len(m.list))
	for k, i := range m.list {
		numbers[i.At] = k
	}
	for _, i := range m.list {
		for k, place := range i.Targets {
			i.Targets[k] = numbers[place]
		}
	}
	numbers[len(m.code.Bytes)] = len(m.list)
	for _, h := range m.code.Handlers {
		name, _ := m.class.Class(int(h.Type))
		m.handlers = append(m.handlers, handler{numbers[h.From], numbers[h.To], numbers[h.Target], name})
	}
	return m.list
}

func slotsOf(descriptors ...string) int {
	n := 0
	for _, d := range descriptors {
		n += desc.Slots(d)
	}
	return n
}

// isReference: is a value of the descriptor one?
func isReference(descriptor string) bool {
	return descriptor != "" && (descriptor[0] == 'L' || descriptor[0] == '[')
}
