package link

import (
	"strings"

	"jvmcore/desc"
)

const (
	object       = "java/lang/Object"
	cloneable    = "java/lang/Cloneable"
	serializable = "java/io/Serializable"
	initName     = "<init>"
)

// isArray: is it the name of one? (A text that only begins like one is not.)
func isArray(name string) bool {
	return strings.HasPrefix(name, "[") && desc.Class(name)
}

// inside: of an array what is in it, a class or an array again; false if these are values that are no references.
func inside(array string) (string, bool) {
	of := array[1:]
	switch of[0] {
	case '[':
		return of, true
	case 'L':
		return of[1 : len(of)-1], true
	}
	return "", false
}

// core: of an array the class that is in it, of whatever depth; false if these are values that are no references. Any other name is its own.
func core(name string) (string, bool) {
	if !isArray(name) {
		return name, true
	}
	return inside(name[strings.LastIndexByte(name, '['):])
}

// SamePackage: are two classes in one?
func SamePackage(a, b string) bool {
	return packageOf(a) == packageOf(b)
}

// packageOf: with the slash, so that a name without any is in another than one that begins with it.
func packageOf(name string) string {
	class, _ := core(name)
	return class[:strings.LastIndexByte(class, '/')+1]
}
