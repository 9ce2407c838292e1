package pool

import (
	"fmt"
	"slices"
	"strings"
	"testing"

	"jvmcore/api"
)

const eight = "\x00\x00\x00\x00\x00\x00\x00\x00"

// samples: each kind of constant, and its bytes.
func samples() ([]api.Const, []string) {
	return []api.Const{
		{Tag: api.Utf8}, {Tag: api.Utf8, Text: "a\xc0\x80"},
		{Tag: api.Integer, Bits: 0x01020304}, {Tag: api.Float, Bits: 1<<32 - 1},
		{Tag: api.Long, Bits: 0x0102030405060708}, {Tag: api.Double, Bits: 1<<64 - 1},
		{Tag: api.ClassRef, A: 0x0102}, {Tag: api.StringRef, A: 65535},
		{Tag: api.FieldRef, A: 0x0102, B: 0x0304}, {Tag: api.MethodRef, A: 65535}, {Tag: api.InterfaceRef, B: 65535}, {Tag: api.NameType, A: 1, B: 2},
	}, []string{
		"\x01\x00\x00", "\x01\x00\x03a\xc0\x80",
		"\x03\x01\x02\x03\x04", "\x04\xff\xff\xff\xff",
		"\x05\x01\x02\x03\x04\x05\x06\x07\x08", "\x06\xff\xff\xff\xff\xff\xff\xff\xff",
		"\x07\x01\x02", "\x08\xff\xff",
		"\x09\x01\x02\x03\x04", "\x0a\xff\xff\x00\x00", "\x0b\x00\x00\xff\xff", "\x0c\x00\x01\x00\x02",
	}
}

// brief: a pool as far as it fits in a line.
func brief(l []api.Const) string {
	return fmt.Sprintf("%d: %.80q", len(l), fmt.Sprint(l[:min(len(l), 8)]))
}

// both: the pool and the bytes belong together.
func both(t *testing.T, l []api.Const, s string) {
	t.Helper()
	if b, e, k := Write(l); b != s || e != api.OK || k != 0 {
		t.Errorf("Write(%s) = %.40x, %d, %d, want %.40x", brief(l), b, e, k, s)
	}
	for _, behind := range []string{"", "\x00", "\xff\xff"} {
		m, n, e, at := Read(s + behind)
		if !slices.Equal(m, l) || n != len(s) || e != api.OK || at != 0 {
			t.Errorf("Read(%.40x) = %s, %d, %d, %d, want %s", s+behind, brief(m), n, e, at, brief(l))
		}
	}
}

// readFails: the error of Read, its place, and nothing else.
func readFails(t *testing.T, s string, e api.Errno, place int) {
	t.Helper()
	if l, n, f, at := Read(s); len(l) != 0 || n != 0 || f != e || at != place {
		t.Errorf("Read(%.40x) = %s, %d, %d, %d, want %d, %d", s, brief(l), n, f, at, e, place)
	}
}

// writeFails: the error of Write, the number of the constant, and nothing else.
func writeFails(t *testing.T, l []api.Const, e api.Errno, number int) {
	t.Helper()
	if s, f, k := Write(l); s != "" || f != e || k != number {
		t.Errorf("Write(%s) = %.40x, %d, %d, want %d, %d", brief(l), s, f, k, e, number)
	}
}

func TestEachConstant(t *testing.T) {
	constants, bytes := samples()
	both(t, []api.Const{{}}, "\x00\x01")
	for k, c := range constants {
		if c.Tag == api.Long || c.Tag == api.Double {
			both(t, []api.Const{{}, c, {}}, "\x00\x03"+bytes[k])
			both(t, []api.Const{{}, c, {}, {Tag: api.Utf8}}, "\x00\x04"+bytes[k]+"\x01\x00\x00")
			continue
		}
		both(t, []api.Const{{}, c}, "\x00\x02"+bytes[k])
		both(t, []api.Const{{}, c, {Tag: api.Utf8}}, "\x00\x03"+bytes[k]+"\x01\x00\x00")
	}
}

func TestReadOfTooFewBytes(t *testing.T) {
	_, bytes := samples()
	s := "\x00\x0f" + strings.Join(bytes, "")
	for n := range len(s) {
		readFails(t, s[:n], api.ErrEnd, n)
	}
	if l, n, e, _ := Read(s); len(l) != 15 || n != len(s) || e != api.OK {
		t.Errorf("Read of all = %v, %d, %d", l, n, e)
	}
	readFails(t, "\x00\x10"+s[2:], api.ErrEnd, len(s))
	readFails(t, "\xff\xff", api.ErrEnd, 2)
}

func TestReadOfWrongBytes(t *testing.T) {
	readFails(t, "\x00\x00", api.ErrLength, 0)
	readFails(t, "\x00\x00\x01", api.ErrLength, 0)
	for tag := range 256 {
		if 3 <= tag && tag <= 12 || tag == 1 {
			continue
		}
		readFails(t, "\x00\x02"+string([]byte{byte(tag)}), api.ErrTag, 2)
		readFails(t, "\x00\x03\x01\x00\x01a"+string([]byte{byte(tag)})+eight, api.ErrTag, 6)
	}
	readFails(t, "\x00\x02\x01\x00\x01\x00", api.ErrText, 2)
	readFails(t, "\x00\x03\x01\x00\x01a\x01\x00\x02\xc1\xbf", api.ErrText, 6)
	// The text ends with its length, not with what is behind it.
	readFails(t, "\x00\x03\x01\x00\x01\xc0\x80", api.ErrText, 2)
}

func TestReadTellsTheFirstError(t *testing.T) {
	readFails(t, "\x00\x04\x01\x00\x01\x00\x02", api.ErrText, 2)
	readFails(t, "\x00\x04\x02\x01\x00\x01\x00", api.ErrTag, 2)
	readFails(t, "\x00\x03\x03\x00\x00\x00\x00\x01\x00\x01\x80", api.ErrText, 7)
	// A text that is not all there is not looked at.
	readFails(t, "\x00\x02\x01\x00\x02\x00", api.ErrEnd, 6)
}

func TestReadOfTheLastRoom(t *testing.T) {
	for _, tag := range []string{"\x05", "\x06"} {
		readFails(t, "\x00\x02"+tag+eight, api.ErrLength, 2)
		readFails(t, "\x00\x02"+tag+eight+"more", api.ErrLength, 2)
		readFails(t, "\x00\x02"+tag+eight[1:], api.ErrEnd, 10)
		readFails(t, "\x00\x03\x07\x00\x00"+tag+eight, api.ErrLength, 5)
		readFails(t, "\x00\x04"+tag+eight+tag+eight, api.ErrLength, 11)
		readFails(t, "\x00\x04"+tag+eight, api.ErrEnd, 11)
	}
	both(t, []api.Const{{}, {Tag: api.Long}, {}, {Tag: api.Double}, {}}, "\x00\x05\x05"+eight+"\x06"+eight)
}

func TestWriteOfWrongTags(t *testing.T) {
	utf8 := api.Const{Tag: api.Utf8}
	for _, wide := range []api.Const{{Tag: api.Long}, {Tag: api.Double}} {
		writeFails(t, []api.Const{wide}, api.ErrTag, 0)
		writeFails(t, []api.Const{{}, wide}, api.ErrTag, 2)
		writeFails(t, []api.Const{{}, wide, utf8}, api.ErrTag, 2)
		writeFails(t, []api.Const{{}, wide, wide}, api.ErrTag, 2)
		writeFails(t, []api.Const{{}, wide, {}, {}}, api.ErrTag, 3)
		writeFails(t, []api.Const{{}, utf8, wide, {}, wide}, api.ErrTag, 5)
	}
	writeFails(t, []api.Const{utf8}, api.ErrTag, 0)
	writeFails(t, []api.Const{{}, {}}, api.ErrTag, 1)
	writeFails(t, []api.Const{{}, utf8, {}}, api.ErrTag, 2)
	for tag := range 256 {
		if tag == 2 || tag > 12 {
			writeFails(t, []api.Const{{}, utf8, {Tag: uint8(tag)}}, api.ErrTag, 2)
			writeFails(t, []api.Const{{Tag: uint8(tag)}}, api.ErrTag, 0)
		}
	}
}

func TestWriteOfWrongTextsAndBits(t *testing.T) {
	writeFails(t, []api.Const{{}, {Tag: api.Utf8, Text: "\x00"}}, api.ErrText, 1)
	writeFails(t, []api.Const{{}, {Tag: api.Utf8}, {Tag: api.Utf8, Text: "a\xc0"}}, api.ErrText, 2)
	for _, tag := range []uint8{api.Integer, api.Float} {
		writeFails(t, []api.Const{{}, {Tag: tag, Bits: 1 << 32}}, api.ErrLength, 1)
		writeFails(t, []api.Const{{}, {Tag: tag, Bits: 1<<32 - 1}, {Tag: tag, Bits: 1<<64 - 1}}, api.ErrLength, 2)
	}
}

func TestWriteTellsTheFirstError(t *testing.T) {
	integer := api.Const{Tag: api.Integer, Bits: 1 << 32}
	text := api.Const{Tag: api.Utf8, Text: "\x80"}
	writeFails(t, []api.Const{{}, integer, text, {Tag: 2}}, api.ErrLength, 1)
	writeFails(t, []api.Const{{}, text, integer, {Tag: 2}}, api.ErrText, 1)
	writeFails(t, []api.Const{{}, {Tag: 2}, integer, text}, api.ErrTag, 1)
	writeFails(t, []api.Const{{}, text, {Tag: api.Long}}, api.ErrText, 1)
	writeFails(t, []api.Const{{}, {Tag: api.Long}, text}, api.ErrTag, 2)
	writeFails(t, []api.Const{{}, {Tag: api.Utf8, Text: strings.Repeat("\x80", 65536)}}, api.ErrText, 1)
}

func TestLongestText(t *testing.T) {
	most := strings.Repeat("a", 65535)
	both(t, []api.Const{{}, {Tag: api.Utf8, Text: most}}, "\x00\x02\x01\xff\xff"+most)
	writeFails(t, []api.Const{{}, {Tag: api.Utf8, Text: most + "a"}}, api.ErrLength, 1)
	// Bytes count, not units.
	writeFails(t, []api.Const{{}, {Tag: api.Utf8, Text: strings.Repeat("\xc0\x80", 32768)}}, api.ErrLength, 1)
	readFails(t, "\x00\x02\x01\xff\xff"+most[1:], api.ErrEnd, 5+65534)
}

func TestLongestPool(t *testing.T) {
	l := make([]api.Const, 65535)
	for k := 1; k < len(l); k++ {
		l[k] = api.Const{Tag: api.ClassRef, A: uint16(k)}
	}
	s, e, k := Write(l)
	if len(s) != 2+3*65534 || e != api.OK || k != 0 {
		t.Fatalf("Write of 65535 constants: %d bytes, %d, %d", len(s), e, k)
	}
	if m, n, e, at := Read(s); !slices.Equal(m, l) || n != len(s) || e != api.OK || at != 0 {
		t.Errorf("Read of 65535 constants: %d of them, %d, %d, %d", len(m), n, e, at)
	}
	writeFails(t, append(l, api.Const{Tag: api.ClassRef}), api.ErrLength, 0)
	writeFails(t, nil, api.ErrLength, 0)
	writeFails(t, []api.Const{}, api.ErrLength, 0)
	l[65534] = api.Const{Tag: api.Long}
	writeFails(t, l, api.ErrTag, 65535)
	l[65533], l[65534] = api.Const{Tag: api.Long}, api.Const{}
	if s, e, _ := Write(l); len(s) != 2+3*65532+9 || e != api.OK {
		t.Errorf("Write of 65535 constants, the last a Long: %d bytes, %d", len(s), e)
	}
}

func TestWriteLetsBeWhatDoesNotBelong(t *testing.T) {
	constants, bytes := samples()
	for k, c := range constants {
		switch c.Tag {
		case api.Utf8:
			c.Bits, c.A, c.B = 1<<63, 1, 2
		case api.Integer, api.Float, api.Long, api.Double:
			c.Text, c.A, c.B = "\x00", 1, 2
		case api.ClassRef, api.StringRef:
			c.Text, c.Bits, c.B = "\x00", 1<<63, 2
		default:
			c.Text, c.Bits = "\x00", 1<<63
		}
		blank := api.Const{Text: "\x00", Bits: 1 << 63, A: 1, B: 2}
		l := []api.Const{blank, c}
		if c.Tag == api.Long || c.Tag == api.Double {
			l = append(l, blank)
		}
		s, e, n := Write(l)
		if want := "\x00" + string([]byte{byte(len(l))}) + bytes[k]; s != want || e != api.OK || n != 0 {
			t.Errorf("Write(%v) = %x, %d, %d, want %x", l, s, e, n, want)
		}
	}
}

func TestListsAreNew(t *testing.T) {
	s := "\x00\x02\x07\x00\x01"
	l, _, _, _ := Read(s)
	l[0], l[1] = api.Const{Tag: 9}, api.Const{Tag: 9}
	both(t, []api.Const{{}, {Tag: api.ClassRef, A: 1}}, s)
}

func FuzzRead(f *testing.F) {
	_, bytes := samples()
	f.Add("\x00\x0f" + strings.Join(bytes, ""))
	f.Add("\x00\x02\x05" + eight)
	f.Add("")
	f.Fuzz(func(t *testing.T, s string) {
		l, n, e, at := Read(s)
		if e != api.OK {
			if len(l) != 0 || n != 0 || at < 0 || at > len(s) || e == api.ErrEnd && at != len(s) {
				t.Fatalf("Read(%x) = %v, %d, %d, %d", s, l, n, e, at)
			}
			return
		}
		if b, f, k := Write(l); b != s[:n] || f != api.OK || k != 0 || at != 0 {
			t.Fatalf("Write(Read(%x)) = %x, %d, %d", s, b, f, k)
		}
	})
}
