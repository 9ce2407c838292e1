package pool

// Units: the units of a text; false if it is no modified UTF-8.
func Units(s string) ([]uint16, bool) {
	var l []uint16
	ok := eachUnit(s, func(u uint16) { l = append(l, u) })
	if !ok {
		return nil, false
	}
	return l, true
}

// Text: units in modified UTF-8.
func Text(l []uint16) string {
	b := make([]byte, 0, len(l))
	for _, u := range l {
		switch unitSize(u) {
		case 1:
			b = append(b, byte(u))
		case 2:
			b = append(b, 0xc0|byte(u>>6), tailByte(u))
		default:
			b = append(b, 0xe0|byte(u>>12), tailByte(u>>6), tailByte(u))
		}
	}
	return string(b)
}

// isText: is it modified UTF-8?
func isText(s string) bool {
	return eachUnit(s, func(uint16) {})
}

// eachUnit: hands the units of s on, one by one; false as soon as there are bytes that are none.
func eachUnit(s string, take func(uint16)) bool {
	for at := 0; at < len(s); {
		u, size := firstUnit(s[at:])
		if size == 0 {
			return false
		}
		take(u)
		at += size
	}
	return true
}

// firstUnit: the unit with which s, which is not empty, begins, and how many bytes it has; 0 of them if s begins with none.
func firstUnit(s string) (uint16, int) {
	u, size := leadByte(s[0])
	if size == 0 || size > len(s) {
		return 0, 0
	}
	for _, b := range []byte(s[1:size]) {
		if b&0xc0 != 0x80 {
			return 0, 0
		}
		u = u<<6 | uint16(b&0x3f)
	}
	// Each unit is written in one way alone: this refuses the byte 0 too.
	if unitSize(u) != size {
		return 0, 0
	}
	return u, size
}

// leadByte: the bits of a unit that its first byte has, and how many bytes the unit has by it; 0 of them if no unit begins so.
func leadByte(b byte) (uint16, int) {
	switch {
	case b&0x80 == 0:
		return uint16(b), 1
	case b&0xe0 == 0xc0:
		return uint16(b & 0x1f), 2
	case b&0xf0 == 0xe0:
		return uint16(b & 0x0f), 3
	}
	return 0, 0
}

// tailByte: the lowest six bits of u, as a byte that is not a unit's first.
func tailByte(u uint16) byte {
	return 0x80 | byte(u&0x3f)
}

// unitSize: how many bytes a unit takes.
func unitSize(u uint16) int {
	switch {
	case 1 <= u && u <= 127:
		return 1
	case u <= 2047:
		return 2
	}
	return 3
}
