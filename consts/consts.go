// Package consts: constants of a pool by the indexes that lead to them, which may lead anywhere.
package consts

import (
	"slices"

	"jvmcore/api"
)

// Pool: one that is only asked.
type Pool []api.Const

// At: the constant of an index; one of Tag 0 where there is none. 0 leads to none, whatever stands there.
func (p Pool) At(index int) api.Const {
	if index < 1 || index >= len(p) {
		return api.Const{}
	}
	return p[index]
}

// Has: does the index lead to a constant of one of these tags?
func (p Pool) Has(index int, tags ...uint8) bool {
	return slices.Contains(tags, p.At(index).Tag)
}

// Text: that of an index; the empty one and false where there is none.
func (p Pool) Text(index int) (string, bool) {
	if !p.Has(index, api.Utf8) {
		return "", false
	}
	return p.At(index).Text, true
}

// Class: the name of the ClassRef of an index: the text of its A; the empty one and false where there is none.
func (p Pool) Class(index int) (string, bool) {
	if !p.Has(index, api.ClassRef) {
		return "", false
	}
	return p.Text(int(p.At(index).A))
}
