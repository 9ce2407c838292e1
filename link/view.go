package link

import (
	"iter"
	"slices"

	"jvmcore/api"
)

// What follows is for the layers that go by what is in classes. None of it but Find looks at a class as Load does.

// File: a class as its file has it, in lists of its own; false if there is none of that name.
func (w *World) File(name string) (api.Class, bool) {
	c, there := w.classes[name]
	if !there {
		return api.Class{}, false
	}
	return copyOf(c.file), true
}

func copyOf(file api.Class) api.Class {
	file.Pool = slices.Clone(file.Pool)
	file.Interfaces = slices.Clone(file.Interfaces)
	file.Fields = slices.Clone(file.Fields)
	file.Methods = slices.Clone(file.Methods)
	for k := range file.Methods {
		code := &file.Methods[k].Code
		code.Handlers = slices.Clone(code.Handlers)
	}
	return file
}

// First: is the class one of those that are there at first?
func (w *World) First(name string) bool {
	c, there := w.classes[name]
	return there && c.first
}

// Interface: is the class one?
func (w *World) Interface(name string) bool {
	c, there := w.classes[name]
	return there && c.is(api.Interface)
}

// Above: the methods of a name and descriptor that stand above a class, the nearest first. Of a class that was not found right there are none.
func (w *World) Above(class, name, of string) iter.Seq[api.Member] {
	return func(yield func(api.Member) bool) {
		first, there := w.classes[class]
		if !there || first.state != looked || first.wrong != api.OK {
			return
		}
		for c := range w.upward(first) {
			m, found := c.methods.find(signature{name, of})
			if found && c.name != class && !yield(m) {
				return
			}
		}
	}
}

// Find: a class is found from another: OK, or what is wrong.
func (w *World) Find(from, name string) api.Errno {
	_, e := w.find(from, name)
	return e
}

// Selected: what is called of a thing of a class, where a method is referred to. Of a class that was not found right there is none.
func (w *World) Selected(m api.Member, thing string) (api.Member, api.Errno) {
	if !w.foundRight(thing) {
		return api.Member{}, api.ErrAbstract
	}
	return w.selected(m, thing)
}

// foundRight: was the class, or what is in the array, looked at and found right? (Values that are no references always are.)
func (w *World) foundRight(name string) bool {
	class, isClass := core(name)
	c, there := w.classes[class]
	return !isClass || there && c.state == looked && c.wrong == api.OK
}
