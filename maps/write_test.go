package maps

import (
	"math"
	"testing"

	"jvmcore/api"
)

// wrongFrames: writing tells the error and the number of the frame, and nothing else.
func wrongFrames(t *testing.T, first types, e api.Errno, k int, l ...api.Frame) {
	t.Helper()
	if s, x, number := Write(l, pool(), first); s != "" || x != e || number != k {
		t.Errorf("Write(%s) = %.60x, %d, %d, want %d, %d", brief(l), s, x, number, e, k)
	}
}

func TestWrongPlaces(t *testing.T) {
	for _, at := range []int{math.MinInt, -65536, -2, -1, 65536, math.MaxInt} {
		wrongFrames(t, nil, api.ErrMap, 0, api.Frame{At: at})
		wrongFrames(t, nil, api.ErrMap, 1, api.Frame{}, api.Frame{At: at})
		wrongFrames(t, nil, api.ErrMap, 2, api.Frame{}, api.Frame{At: 65535}, api.Frame{At: at})
	}
	wrongFrames(t, nil, api.ErrMap, 1, api.Frame{}, api.Frame{})
	wrongFrames(t, nil, api.ErrMap, 1, api.Frame{At: 3}, api.Frame{At: 3})
	wrongFrames(t, nil, api.ErrMap, 1, api.Frame{At: 3}, api.Frame{At: 2})
	wrongFrames(t, nil, api.ErrMap, 2, api.Frame{At: 3}, api.Frame{At: 65535}, api.Frame{At: 65535})
}

func TestTooMany(t *testing.T) {
	many := repeated(num, 65536)
	wrongFrames(t, nil, api.ErrMap, 0, api.Frame{Locals: many})
	wrongFrames(t, nil, api.ErrMap, 0, api.Frame{Stack: many})
	wrongFrames(t, nil, api.ErrMap, 1, api.Frame{}, api.Frame{At: 1, Stack: many})
	// even if they are as ahead, and need no number
	wrongFrames(t, many, api.ErrMap, 0, api.Frame{Locals: many})
	wrongFrames(t, many[:65535], api.ErrMap, 0, api.Frame{Locals: many})
	wrongFrames(t, nil, api.ErrLength, 0, make([]api.Frame, 65536)...)
	// told ahead of all that is wrong with one
	wrongFrames(t, nil, api.ErrLength, 0, append([]api.Frame{{At: -1}}, make([]api.Frame, 70000)...)...)
	wrongFrames(t, nil, api.ErrMap, 0, append([]api.Frame{{At: -1}}, make([]api.Frame, 65534)...)...)
}

// TestWrongTypes: in each form in which they are written.
func TestWrongTypes(t *testing.T) {
	for _, c := range []struct {
		t api.VType
		e api.Errno
	}{
		{api.VType{Tag: 9}, api.ErrMap}, {api.VType{Tag: 9, Name: "A"}, api.ErrMap}, {api.VType{Tag: 255}, api.ErrMap},
		{api.VType{Tag: api.Fresh, At: -1}, api.ErrMap}, {api.VType{Tag: api.Fresh, At: 65536}, api.ErrMap}, {api.VType{Tag: api.Fresh, At: math.MinInt}, api.ErrMap}, {api.VType{Tag: api.Fresh, At: math.MaxInt}, api.ErrMap},
		{api.VType{Tag: api.Object, Name: "B"}, api.ErrIndex}, {api.VType{Tag: api.Object, Name: "a"}, api.ErrIndex}, {lost, api.ErrIndex},
	} {
		for _, f := range []api.Frame{
			{Locals: two(), Stack: types{c.t}},
			{At: 64, Locals: two(), Stack: types{c.t}},
			{Locals: append(two(), c.t)},
			{Locals: append(two(), num, ofA, c.t)},
			{Locals: types{c.t}},
			{Locals: types{c.t, num}, Stack: types{num, num}},
			{Locals: two(), Stack: types{num, c.t}},
		} {
			wrongFrames(t, two(), c.e, 0, f)
			f.At++
			wrongFrames(t, two(), c.e, 1, api.Frame{Locals: two()}, f, api.Frame{At: -1})
		}
	}
}

// TestFirstWrongType: locals ahead of the stack; what is told of the whole frame ahead of them; the first frame.
func TestFirstWrongType(t *testing.T) {
	bad, gone := api.VType{Tag: 9}, api.VType{Tag: api.Object, Name: "B"}
	wrongFrames(t, nil, api.ErrMap, 0, api.Frame{Locals: types{bad, gone}, Stack: types{gone}})
	wrongFrames(t, nil, api.ErrIndex, 0, api.Frame{Locals: types{num, gone, bad}, Stack: types{bad}})
	wrongFrames(t, nil, api.ErrIndex, 0, api.Frame{Locals: types{gone}, Stack: types{bad}})
	wrongFrames(t, nil, api.ErrMap, 0, api.Frame{Stack: types{bad, gone}})
	wrongFrames(t, nil, api.ErrIndex, 0, api.Frame{Stack: types{num, gone, bad}})
	wrongFrames(t, nil, api.ErrMap, 0, api.Frame{At: -1, Stack: types{gone}})
	wrongFrames(t, nil, api.ErrMap, 0, api.Frame{At: 65536, Stack: types{gone}})
	wrongFrames(t, nil, api.ErrMap, 0, api.Frame{Locals: types{gone}, Stack: repeated(num, 65536)})
	wrongFrames(t, nil, api.ErrIndex, 0, api.Frame{Stack: types{gone}}, api.Frame{At: -1})
}

// TestToldAsAhead: types that are not written may be wrong; written again they may not.
func TestToldAsAhead(t *testing.T) {
	odd := types{{Tag: 9}, {Tag: api.Object, Name: "B"}, {Tag: api.Fresh, At: -1}, {Tag: api.Object}}
	for _, c := range []struct {
		s string
		f api.Frame
	}{
		{"\x00\x01\x02", api.Frame{At: 2, Locals: odd}},
		{"\x00\x01\xfb\x00\x40", api.Frame{At: 64, Locals: odd}},
		{"\x00\x01\x40\x01", api.Frame{Locals: odd, Stack: types{num}}},
		{"\x00\x01\xf7\x00\x40\x01", api.Frame{At: 64, Locals: odd, Stack: types{num}}},
		{"\x00\x01\xfa\x00\x00", api.Frame{Locals: odd[:3]}},
		{"\x00\x01\xf8\x00\x00", api.Frame{Locals: odd[:1]}},
		{"\x00\x01\xfc\x00\x00\x01", api.Frame{Locals: append(odd[:4:4], num)}},
	} {
		if s, e, k := Write([]api.Frame{c.f}, pool(), odd); s != c.s || e != api.OK || k != 0 {
			t.Errorf("Write(%v) = %x, %d, %d, want %x", c.f, s, e, k, c.s)
		}
	}
	wrongFrames(t, odd, api.ErrMap, 0, api.Frame{Locals: odd, Stack: types{num, num}})
	wrongFrames(t, odd[1:], api.ErrIndex, 0, api.Frame{Locals: append(odd[1:4:4], num, num, num, num)})
	wrongFrames(t, odd, api.ErrMap, 1, api.Frame{Locals: odd[:3]}, api.Frame{At: 1, Locals: odd[:3], Stack: types{num, num}})
}

// TestFirstClassRef: of those that lead to a text; none at 0, or where two bytes do not reach.
func TestFirstClassRef(t *testing.T) {
	text, none := api.Const{Tag: api.Utf8, Text: "A"}, api.Const{Tag: api.Utf8}
	ref := func(a uint16) api.Const { return api.Const{Tag: api.ClassRef, A: a} }
	great := make([]api.Const, 65538)
	great[1], great[65535] = text, ref(1)
	beyond := make([]api.Const, 65538)
	beyond[1], beyond[65536] = text, ref(1)
	for _, c := range []struct {
		name string
		p    []api.Const
		s    string
		e    api.Errno
	}{
		{"A", []api.Const{{}, ref(3), ref(3), text}, "\x00\x01\x40\x07\x00\x01", api.OK},
		{"A", []api.Const{{}, ref(2), text, ref(4), text, ref(2)}, "\x00\x01\x40\x07\x00\x01", api.OK},
		{"A", []api.Const{{}, ref(0), ref(9), ref(2), ref(5), text}, "\x00\x01\x40\x07\x00\x04", api.OK},
		{"A", []api.Const{ref(1), text, {Tag: api.StringRef, A: 1}, ref(1)}, "\x00\x01\x40\x07\x00\x03", api.OK},
		{"A", []api.Const{ref(1), text, {Tag: api.StringRef, A: 1}}, "", api.ErrIndex},
		{"A", []api.Const{text, ref(0)}, "", api.ErrIndex},
		{"A", []api.Const{{}, text}, "", api.ErrIndex},
		{"A", nil, "", api.ErrIndex},
		{"", []api.Const{{}, ref(0), ref(9), ref(1)}, "", api.ErrIndex},
		{"", []api.Const{{}, ref(0), ref(9), ref(4), none}, "\x00\x01\x40\x07\x00\x03", api.OK},
		{"A", great, "\x00\x01\x40\x07\xff\xff", api.OK},
		{"A", beyond, "", api.ErrIndex},
	} {
		l := []api.Frame{{Stack: types{{Tag: api.Object, Name: c.name}}}}
		if s, e, k := Write(l, c.p, nil); s != c.s || e != c.e || k != 0 {
			t.Errorf("Write(%q) by %s = %x, %d, %d, want %x, %d", c.name, brief(c.p), s, e, k, c.s, c.e)
		}
	}
}

// TestManyClasses: a great pool is not gone through for each type.
func TestManyClasses(t *testing.T) {
	p := make([]api.Const, 60000)
	p[59998], p[59999] = api.Const{Tag: api.Utf8, Text: "A"}, api.Const{Tag: api.ClassRef, A: 59998}
	for k := range 59998 {
		p[k] = api.Const{Tag: api.ClassRef, A: 59997}
	}
	l := []api.Frame{{Locals: repeated(ofA, 65535), Stack: repeated(ofA, 65535)}}
	s, e, k := Write(l, p, nil)
	if len(s) != 9+6*65535 || e != api.OK || k != 0 {
		t.Errorf("Write = %d bytes, %d, %d", len(s), e, k)
	}
}

// TestNeedless: what a type has beside what it needs is not written; but it is another than one without.
func TestNeedless(t *testing.T) {
	stack := types{{Tag: api.Int, Name: "A", At: 7}}
	if s, e, _ := Write([]api.Frame{{Locals: two(), Stack: stack}}, pool(), two()); s != "\x00\x01\x40\x01" || e != api.OK {
		t.Errorf("Write(%v) = %x, %d", stack, s, e)
	}
	locals := types{{Tag: api.Int, At: 7}}
	if s, e, _ := Write([]api.Frame{{Locals: locals}}, pool(), types{num}); s != "\x00\x01\xff\x00\x00\x00\x01\x01\x00\x00" || e != api.OK {
		t.Errorf("Write(%v) = %x, %d", locals, s, e)
	}
}
