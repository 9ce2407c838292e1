package maps

import (
	"strings"
	"testing"

	"jvmcore/api"
)

// wrongMap: reading tells the error and its place, and nothing else.
func wrongMap(t *testing.T, s string, first types, e api.Errno, at int) {
	t.Helper()
	if l, x, place := Read(s, pool(), first); l != nil || x != e || place != at {
		t.Errorf("Read(%.60x) = %s, %d, %d, want %d, %d", s, brief(l), x, place, e, at)
	}
}

// TestCutShort: within each part of each form.
func TestCutShort(t *testing.T) {
	for _, s := range []string{
		"\x00\x00", "\x00\x01\x00", "\x00\x01\x3f", "\x00\x03\x00\x00\x00",
		"\x00\x01\x40\x01", "\x00\x01\x7f\x07\x00\x03", "\x00\x01\x40\x08\x00\x03",
		"\x00\x01\xf7\x00\x40\x01", "\x00\x01\xf7\x00\x40\x07\x00\x03",
		"\x00\x01\xf8\x00\x01", "\x00\x01\xf9\x00\x01", "\x00\x01\xfa\x00\x01", "\x00\x01\xfb\x00\x01",
		"\x00\x01\xfc\x00\x01\x05", "\x00\x01\xfd\x00\x01\x07\x00\x03\x05", "\x00\x01\xfe\x00\x01\x08\x00\x03\x05\x07\x00\x03",
		"\x00\x01\xff\x00\x01\x00\x00\x00\x00", "\x00\x02\xff\x00\x01\x00\x02\x07\x00\x03\x01\x00\x02\x08\x00\x00\x02\x40\x05",
	} {
		first := types{num, long, ofA}
		if _, e, at := Read(s, pool(), first); e != api.OK {
			t.Errorf("Read(%x): %d, %d", s, e, at)
		}
		for n := range len(s) {
			wrongMap(t, s[:n], first, api.ErrEnd, n)
		}
		wrongMap(t, s+"\x00", first, api.ErrRest, len(s))
		wrongMap(t, s+"\xff\xff\xff", first, api.ErrRest, len(s))
	}
	wrongMap(t, "\xff\xff", nil, api.ErrEnd, 2)
	wrongMap(t, "\x00\x01\xff\x00\x00\xff\xff\x01\x01", nil, api.ErrEnd, 9)
	wrongMap(t, "\x00\x01\xff\x00\x00\x00\x00\xff\xff\x01", nil, api.ErrEnd, 10)
	wrongMap(t, "\xff\xff"+strings.Repeat("\x00", 65534), nil, api.ErrEnd, 65536)
	wrongMap(t, "\xff\xff"+strings.Repeat("\x00", 65536), nil, api.ErrRest, 65537)
}

// TestNoForm: a tag that is none, at the place where its frame begins, whatever stands behind it.
func TestNoForm(t *testing.T) {
	for _, tag := range []string{"\x80", "\x81", "\xc0", "\xf5", "\xf6"} {
		wrongMap(t, "\x00\x01"+tag, two(), api.ErrMap, 2)
		wrongMap(t, "\x00\x02\x00"+tag, two(), api.ErrMap, 3)
		wrongMap(t, "\x00\x03\xfb\x00\x01"+tag+"\x00\x01\x09", two(), api.ErrMap, 5)
	}
}

// TestTakenOff: as many locals as there are, and one more.
func TestTakenOff(t *testing.T) {
	for n := 1; n <= 3; n++ {
		tag := string([]byte{byte(251 - n)})
		both(t, "\x00\x01"+tag+"\x00\x05", repeated(lost, n), api.Frame{At: 5})
		wrongMap(t, "\x00\x01"+tag+"\x00\x05", repeated(lost, n-1), api.ErrMap, 2)
		wrongMap(t, "\x00\x01"+tag+"\x00\x05", nil, api.ErrMap, 2)
		// looked at when its 2 bytes were read
		wrongMap(t, "\x00\x01"+tag+"\x00", nil, api.ErrEnd, 4)
		wrongMap(t, "\x00\x01"+tag, nil, api.ErrEnd, 3)
		// by the frame ahead, not by the locals at first
		wrongMap(t, "\x00\x02"+tag+"\x00\x05\xfa\x00\x00\x09", repeated(num, n), api.ErrMap, 5)
		wrongMap(t, "\x00\x02\xff\x00\x00\x00\x00\x00\x01\x01"+tag+"\x00\x05", repeated(num, 3), api.ErrMap, 10)
	}
}

// TestNoType: another tag of a type, where the type begins, wherever it stands.
func TestNoType(t *testing.T) {
	for _, tag := range []string{"\x09", "\x0a", "\x7f", "\x80", "\xff"} {
		wrongMap(t, "\x00\x01\x40"+tag, two(), api.ErrMap, 3)
		wrongMap(t, "\x00\x01\x7f"+tag+"\x00", two(), api.ErrMap, 3)
		wrongMap(t, "\x00\x01\xf7\x00\x01"+tag, two(), api.ErrMap, 5)
		wrongMap(t, "\x00\x01\xfc\x00\x01"+tag, two(), api.ErrMap, 5)
		wrongMap(t, "\x00\x01\xfe\x00\x01\x07\x00\x03\x01"+tag, two(), api.ErrMap, 9)
		wrongMap(t, "\x00\x01\xff\x00\x01\x00\x02\x01"+tag, two(), api.ErrMap, 8)
		wrongMap(t, "\x00\x01\xff\x00\x01\x00\x00\x00\x02\x01"+tag, two(), api.ErrMap, 10)
		wrongMap(t, "\x00\x02\x00\x40"+tag, two(), api.ErrMap, 4)
	}
}

// TestIndexes: of a class, wherever it stands.
func TestIndexes(t *testing.T) {
	for _, c := range []struct {
		head string
		tail string
	}{{"\x00\x01\x40", ""}, {"\x00\x01\xf7\x00\x40", ""}, {"\x00\x01\xfd\x00\x01\x01", ""}, {"\x00\x01\xff\x00\x01\x00\x01", "\x00\x00"}, {"\x00\x01\xff\x00\x01\x00\x00\x00\x02\x01", ""}} {
		for _, index := range []string{"\x00\x00", "\x00\x01", "\x00\x06", "\x00\x08", "\x01\x03", "\xff\xff"} {
			wrongMap(t, c.head+"\x07"+index+c.tail, two(), api.ErrIndex, len(c.head))
			wrongMap(t, c.head+"\x07"+index[:1], two(), api.ErrEnd, len(c.head)+2)
		}
		for _, index := range []string{"\x00\x02", "\x00\x03", "\x00\x05", "\x00\x07"} {
			if _, e, at := Read(c.head+"\x07"+index+c.tail, pool(), two()); e != api.OK {
				t.Errorf("Read by index %x: %d, %d", index, e, at)
			}
		}
	}
	wrongMap(t, "\x00\x02\x40\x07\x00\x00\x80", two(), api.ErrIndex, 3)
	reads(t, "\x00\x01\x40\x07\x00\x07", nil, api.Frame{Stack: types{ofB}})
	reads(t, "\x00\x01\x40\x07\x00\x05", nil, api.Frame{Stack: types{ofA}})
}

// TestOddPools: none; a class at 0, which no index leads to; classes that lead to no text; as many constants as an index can tell.
func TestOddPools(t *testing.T) {
	s := "\x00\x01\x40\x07\x00\x01"
	text := api.Const{Tag: api.Utf8, Text: "A"}
	for _, p := range [][]api.Const{nil, {}, {{Tag: api.ClassRef, A: 1}}} {
		if l, e, at := Read(s, p, nil); l != nil || e != api.ErrIndex || at != 3 {
			t.Errorf("Read by %v = %v, %d, %d", p, l, e, at)
		}
	}
	if l, e, at := Read("\x00\x01\x40\x07\x00\x00", []api.Const{{Tag: api.ClassRef, A: 1}, text}, nil); l != nil || e != api.ErrIndex || at != 3 {
		t.Errorf("Read by index 0 = %v, %d, %d", l, e, at)
	}
	for _, p := range [][]api.Const{{{}, {Tag: api.ClassRef}}, {{}, {Tag: api.ClassRef, A: 1}}, {{}, {Tag: api.ClassRef, A: 2}}, {{}, {Tag: api.ClassRef, A: 65535}}, {{}, {Tag: api.ClassRef, A: 2}, {Tag: api.StringRef, Text: "A"}}} {
		if l, e, _ := Read(s, p, nil); e != api.OK || !sameFrames(l, []api.Frame{{Stack: types{lost}}}) {
			t.Errorf("Read by %v = %v, %d", p, l, e)
		}
	}
	great := make([]api.Const, 65536)
	great[1], great[65535] = text, api.Const{Tag: api.ClassRef, A: 1}
	if l, e, _ := Read("\x00\x01\x40\x07\xff\xff", great, nil); e != api.OK || !sameFrames(l, []api.Frame{{Stack: types{ofA}}}) {
		t.Errorf("Read by the greatest index = %v, %d", l, e)
	}
	if l, e, _ := Read("\x00\x01\x40\x07\xff\xff", great[:65535], nil); e != api.ErrIndex || l != nil {
		t.Errorf("Read behind the last constant = %v, %d", l, e)
	}
}

// TestFarPlaces: places are not looked at; what is ahead of the first is at -1.
func TestFarPlaces(t *testing.T) {
	reads(t, "\x00\x02\xfb\xff\xfe\x00", nil, api.Frame{At: 65534}, api.Frame{At: 65535})
	reads(t, "\x00\x02\xfb\xff\xff\x00", nil, api.Frame{At: 65535}, api.Frame{At: 65536})
	reads(t, "\x00\x03\xfb\xff\xff\x7f\x01\xfb\xff\xff", nil, api.Frame{At: 65535}, api.Frame{At: 65599, Stack: types{num}}, api.Frame{At: 131135})
}

// TestFirstError: what is wrong first counts, not what is worse.
func TestFirstError(t *testing.T) {
	wrongMap(t, "\x00\x02\x40\x09\x80", nil, api.ErrMap, 3)
	wrongMap(t, "\x00\x02\xfa\x00\x00\x40\x07\x00\x00", nil, api.ErrMap, 2)
	wrongMap(t, "\x00\x01\xff\x00\x00\x00\x01\x07\x00\x01\x00\x01\x09", nil, api.ErrIndex, 7)
	wrongMap(t, "\x00\x01\xff\x00\x00\x00\x02\x09", nil, api.ErrMap, 7)
	wrongMap(t, "\x00\x02\x40\x07\x00\x00", nil, api.ErrIndex, 3)
}
