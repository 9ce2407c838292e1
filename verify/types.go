package verify

import (
	"strings"

	"jvmcore/api"
)

// Names that the chapter tells.
const (
	objectName       = "java/lang/Object"
	cloneableName    = "java/lang/Cloneable"
	serializableName = "java/io/Serializable"
	throwableName    = "java/lang/Throwable"
	stringName       = "java/lang/String"
	initName         = "<init>"
)

// The types of which there is but one.
var (
	topType    = api.VType{Tag: api.Top}
	intType    = api.VType{Tag: api.Int}
	longType   = api.VType{Tag: api.Int64}
	floatType  = api.VType{Tag: api.Float32}
	doubleType = api.VType{Tag: api.Float64}
	nullType   = api.VType{Tag: api.Null}
	thisType   = api.VType{Tag: api.FreshThis}
)

func objectOf(name string) api.VType {
	return api.VType{Tag: api.Object, Name: name}
}

// number: one of the four types of numbers, in the order in which instructions on them have theirs.
func number(k int) api.VType {
	return [...]api.VType{intType, longType, floatType, doubleType}[k]
}

// typeOf: of the descriptor of a value.
func typeOf(descriptor string) api.VType {
	switch descriptor[0] {
	case 'J':
		return longType
	case 'F':
		return floatType
	case 'D':
		return doubleType
	case 'L':
		return objectOf(descriptor[1 : len(descriptor)-1])
	case '[':
		return objectOf(descriptor)
	}
	return intType
}

func typesOf(descriptors ...string) []api.VType {
	var l []api.VType
	for _, d := range descriptors {
		l = append(l, typeOf(d))
	}
	return l
}

// slots: how many these take.
func slots(l ...api.VType) int {
	n := len(l)
	for _, t := range l {
		if isWide(t) {
			n++
		}
	}
	return n
}

func isWide(t api.VType) bool {
	return t.Tag == api.Int64 || t.Tag == api.Float64
}

func isReference(t api.VType) bool {
	switch t.Tag {
	case api.Null, api.FreshThis, api.Object, api.Fresh:
		return true
	}
	return false
}

// isArray: is it the name of one? (Here all names are right.)
func isArray(name string) bool {
	return strings.HasPrefix(name, "[")
}

// isArrayOf: is it of an array whose elements have descriptors that begin with one of these signs?
func isArrayOf(t api.VType, signs string) bool {
	return t.Tag == api.Object && isArray(t.Name) && strings.IndexByte(signs, t.Name[1]) >= 0
}

// spread: types of locals, one for each slot, behind those that are in a list.
func spread(out []api.VType, l ...api.VType) []api.VType {
	for _, t := range l {
		out = append(out, t)
		if isWide(t) {
			out = append(out, topType)
		}
	}
	return out
}
