package link

import (
	"slices"

	"jvmcore/api"
)

// Layout: the fields of a thing of a class.
func (w *World) Layout(class string) ([]api.Member, api.Errno) {
	if e := w.Load(class); e != api.OK {
		return nil, e
	}
	if isArray(class) {
		return nil, api.ErrChange
	}
	var l []api.Member
	for _, c := range slices.Backward(slices.Collect(w.upward(w.classes[class]))) {
		for _, f := range c.fields.list {
			if f.Flags&api.Static == 0 {
				l = append(l, f)
			}
		}
	}
	return l, api.OK
}
