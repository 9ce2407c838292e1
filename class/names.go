package class

import (
	"jvmcore/api"
	"jvmcore/desc"
)

// signature: the name of a member, and its descriptor.
type signature [2]string

const (
	nameOf = iota
	typeOf
)

// names: a set of them.
type names map[signature]struct{}

// add: one more; false if it was there already.
func (n names) add(s signature) bool {
	if _, had := n[s]; had {
		return false
	}
	n[s] = struct{}{}
	return true
}

// signature: that of two indexes; false if one of them leads to no text.
func (c *checker) signature(name, of uint16) (signature, bool) {
	first, hasName := c.Text(int(name))
	second, hasType := c.Text(int(of))
	return signature{first, second}, hasName && hasType
}

// wrongField: what is wrong with that of a field.
func (s signature) wrongField() api.Errno {
	switch {
	case desc.Member(s[nameOf], false) == 0:
		return api.ErrName
	case !desc.Field(s[typeOf]):
		return api.ErrType
	}
	return api.OK
}

// wrongMethod: what is wrong with that of a method, <init> and <clinit> among them.
func (s signature) wrongMethod() api.Errno {
	if desc.Member(s[nameOf], true) == 0 {
		return api.ErrName
	}
	_, gives, right := desc.Method(s[typeOf])
	switch {
	case !right, s[nameOf] == initName && gives != "V", s[nameOf] == clinitName && s[typeOf] != "()V":
		return api.ErrType
	}
	return api.OK
}

// valueTags: of the constants that may be the value of a field; none of a descriptor that can have no value.
func (s signature) valueTags() []uint8 {
	switch s[typeOf] {
	case "I", "S", "C", "B", "Z":
		return []uint8{api.Integer}
	case "J":
		return []uint8{api.Long}
	case "F":
		return []uint8{api.Float}
	case "D":
		return []uint8{api.Double}
	case "Ljava/lang/String;":
		return []uint8{api.StringRef}
	}
	return nil
}

// slots: of what a method takes.
func (s signature) slots() int {
	takes, _, _ := desc.Method(s[typeOf])
	n := 0
	for _, of := range takes {
		n += desc.Slots(of)
	}
	return n
}
