package verify

import "jvmcore/api"

// fit: one type must fit another.
func (c *class) fit(one, other api.VType) {
	if one == other || other == topType {
		return
	}
	need(other.Tag == api.Object)
	if one != nullType {
		need(one.Tag == api.Object && c.below(one.Name, other.Name))
	}
}

// below: is one class below the other? What must be right for that and is not, leaves.
func (c *class) below(a, b string) bool {
	for a != b && b != objectName {
		switch {
		case !isArray(b):
			return c.belowClass(a, b)
		case !isArray(a):
			return false
		}
		inA, inB := typeOf(a[1:]), typeOf(b[1:])
		if inA.Tag != api.Object || inB.Tag != api.Object {
			return false // they are others: values of all kinds alike
		}
		a, b = inA.Name, inB.Name
	}
	return true
}

// belowClass: of a class b that is no array.
func (c *class) belowClass(a, b string) bool {
	c.right(b)
	switch {
	case c.world.Interface(b):
		return !isArray(a) || b == cloneableName || b == serializableName
	case isArray(a):
		return false
	}
	c.right(a)
	under, _ := c.world.Under(a, b)
	return under
}

// right: the class must be right.
func (c *class) right(name string) {
	if e := c.world.Load(name); e != api.OK {
		leave(e)
	}
}
