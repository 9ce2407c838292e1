// Package desc: names and descriptors; a text here is any bytes: see shared/doc/02-desc.md.
package desc

import "strings"

const (
	maxDimensions = 255 // signs [ together
	maxSlots      = 254 // of what a method takes
)

// What Member answers.
const (
	noMember = iota
	plainMember
	initMember
	clinitMember
)

// Member: the kind of a member's name, of a method or of a field: 0: none; 1: one; 2: <init>; 3: <clinit>.
func Member(s string, method bool) int {
	switch {
	case !isPart(s):
		return noMember
	case !method:
		return plainMember
	case s == "<init>":
		return initMember
	case s == "<clinit>":
		return clinitMember
	case strings.ContainsAny(s, "<>"):
		return noMember
	}
	return plainMember
}

// Class: is it the name of a class, or the descriptor of an array?
func Class(s string) bool {
	if strings.HasPrefix(s, "[") {
		return Field(s)
	}
	return isClassName(s)
}

// Field: is it the descriptor of a value?
func Field(s string) bool {
	return s != "" && valueLength(s) == len(s)
}

// Slots: how many a value of a descriptor takes; 1 of what is none.
func Slots(s string) int {
	switch s {
	case "J", "D":
		return 2
	case "V":
		return 0
	}
	return 1
}

// Method: the descriptors of what a method takes, in order, and of what it gives; false if s is no descriptor of a method.
func Method(s string) ([]string, string, bool) {
	if !strings.HasPrefix(s, "(") {
		return nil, "", false
	}
	takes, rest := cutValues(s[1:])
	if !strings.HasPrefix(rest, ")") || !fit(takes) {
		return nil, "", false
	}
	gives := rest[1:]
	if gives != "V" && !Field(gives) {
		return nil, "", false
	}
	return takes, gives, true
}

// cutValues: the descriptors of values with which s begins, and what is behind them.
func cutValues(s string) ([]string, string) {
	var l []string
	for n := valueLength(s); n > 0; n = valueLength(s) {
		l = append(l, s[:n])
		s = s[n:]
	}
	return l, s
}

// fit: may a method take values of these descriptors, by their slots?
func fit(l []string) bool {
	slots := 0
	for _, s := range l {
		slots += Slots(s)
	}
	return slots <= maxSlots
}

// valueLength: how long the descriptor of a value is with which s begins; 0 if it begins with none.
func valueLength(s string) int {
	element := strings.TrimLeft(s, "[")
	dimensions := len(s) - len(element)
	if dimensions > maxDimensions || element == "" {
		return 0
	}
	switch element[0] {
	case 'B', 'C', 'D', 'F', 'I', 'J', 'S', 'Z':
		return dimensions + 1
	case 'L':
		name, _, closed := strings.Cut(element[1:], ";")
		if closed && isClassName(name) {
			return dimensions + len("L") + len(name) + len(";")
		}
	}
	return 0
}

// isClassName: is it the name of a class that is no array?
func isClassName(s string) bool {
	ahead := byte('/')
	for k := range len(s) {
		b := s[k]
		if b == '.' || b == ';' || b == '[' || b == '/' && ahead == '/' {
			return false
		}
		ahead = b
	}
	return ahead != '/'
}

// isPart: is it a part of a name?
func isPart(s string) bool {
	return isClassName(s) && !strings.Contains(s, "/")
}
