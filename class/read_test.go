package class

import (
	"slices"
	"strings"
	"testing"

	"jvmcore/api"
)

// TestFileCutShort: within each part.
func TestFileCutShort(t *testing.T) {
	for _, p := range []parts{plain(), whole()} {
		s := p.join()
		for n := range len(s) {
			wrongFile(t, s[:n], api.ErrEnd, n)
		}
		for _, more := range []string{"\x00", "x", s} {
			wrongFile(t, s+more, api.ErrRest, len(s))
		}
	}
	p := plain()
	p.interfaces, p.fields = "\xff\xff", ""
	wrongFile(t, p.join(), api.ErrEnd, len(p.join()))
}

func TestMagicAndVersion(t *testing.T) {
	s := plain().join()
	for _, c := range []string{"\xca\xfe\xba\xbf", "\xcb\xfe\xba\xbe", "\xca\xff\xba\xbe", "\xca\xfe\xbb\xbe", "\xbe\xba\xfe\xca", "\x00\x00\x00\x00", "PK\x03\x04"} {
		wrongFile(t, c, api.ErrMagic, 0)
		wrongFile(t, c+s[4:], api.ErrMagic, 0)
		wrongFile(t, c+"\x00\x01\x00\x33", api.ErrMagic, 0)
		for n := range 4 {
			wrongFile(t, c[:n], api.ErrEnd, n)
		}
	}
	for _, c := range []string{"\x00\x00\x00\x31", "\x00\x00\x00\x34", "\x00\x01\x00\x32", "\x00\x01\x00\x33", "\x01\x00\x00\x33", "\x00\x00\x01\x33", "\x00\x00\x33\x00", "\x00\x33\x00\x00", "\x00\x00\x00\x00", "\xff\xff\xff\xff"} {
		wrongFile(t, s[:4]+c, api.ErrVersion, 4)
		wrongFile(t, s[:4]+c+s[8:], api.ErrVersion, 4)
		wrongFile(t, s[:4]+c+"\x00\x00", api.ErrVersion, 4)
		for n := range 4 {
			wrongFile(t, s[:4]+c[:n], api.ErrEnd, 4+n)
		}
	}
	for _, c := range []string{"\x00\x00\x00\x32", "\x00\x00\x00\x33"} {
		wrongFile(t, s[:4]+c, api.ErrEnd, 8)
	}
}

// TestPoolOfFile: its errors, their places counted from the beginning of the file.
func TestPoolOfFile(t *testing.T) {
	head := plain().head
	for _, c := range []struct {
		pool string
		e    api.Errno
		at   int
	}{
		{"\x00\x00", api.ErrLength, 8}, {"\x00\x02\x02", api.ErrTag, 10}, {"\x00\x02\x00", api.ErrTag, 10}, {"\x00\x03\x07\x00\x01\x0d", api.ErrTag, 13},
		{"\x00\x02\x01\x00\x01\x00", api.ErrText, 10}, {"\x00\x03\x08\x00\x01\x01\x00\x01\xff", api.ErrText, 13},
		{"\x00\x02\x05\x00\x00\x00\x00\x00\x00\x00\x00", api.ErrLength, 10}, {"\x00\x03\x07\x00\x01\x06\x00\x00\x00\x00\x00\x00\x00\x00", api.ErrLength, 13},
	} {
		wrongFile(t, head+c.pool, c.e, c.at)
		wrongFile(t, head+c.pool+plain().ids, c.e, c.at)
	}
	wrongFile(t, head+"\x00", api.ErrEnd, 9)
	wrongFile(t, head+"\x00\x02\x01\x00\x02x", api.ErrEnd, 14)
	wrongFile(t, head+"\x00\x01", api.ErrEnd, 10)
}

// holder: where attributes stand: what is ahead of their number, and behind them; what is read if none counts; the name that counts there (0: none), and what may be in one.
type holder struct {
	ahead, behind string
	bare          api.Class
	counts        int
	body          string
}

// holders: a field, a method, and the class.
func holders() []holder {
	p := plain()
	start := p.head + p.pool + p.ids + p.interfaces
	ofField, ofMethod := plainClass(), plainClass()
	ofField.Fields = slices.Repeat([]api.Field{{Flags: 9, Name: tX, Type: tInt}}, 2)
	ofMethod.Methods = slices.Repeat([]api.Method{{Flags: 8, Name: tM, Type: tVoid}}, 2)
	return []holder{
		{start + two(2) + fieldHead, fieldHead + two(0) + p.methods + p.attributes, ofField, tValue, two(seven)},
		{start + p.fields + two(2) + methodHead, methodHead + two(0) + p.attributes, ofMethod, tCode, codeHead + two(0, 0)},
		{start + p.fields + p.methods, "", plainClass(), 0, ""},
	}
}

// inCode: a file with a method whose Code has those attributes, and where these begin.
func inCode(attributes string, number, length int) (string, int) {
	h := holders()[1]
	ahead := h.ahead + two(1, tCode) + four(length) + codeHead + two(0, number)
	return ahead + attributes + h.behind, len(ahead)
}

func rightLength(attributes string) int { return len(codeHead) + 4 + len(attributes) }

// TestNamesOfAttributes: an index that leads to no text, told ahead of the length.
func TestNamesOfAttributes(t *testing.T) {
	for _, index := range []int{0, cA, seven, long, behindLong, size, size + 1, 65535} {
		for _, behind := range []string{"", "\x00", "\x00\x00\x00", "\x00\x00\x00\x00", "\x00\x00\x00\x02xx", "\xff\xff\xff\xff"} {
			for _, h := range holders() {
				at := len(h.ahead) + 2
				wrongFile(t, h.ahead+two(1, index)+behind, api.ErrIndex, at)
				wrongFile(t, h.ahead+two(1, index)+behind+h.behind, api.ErrIndex, at)
				first := attr(tElse, "abc")
				wrongFile(t, h.ahead+two(2)+first+two(index)+behind, api.ErrIndex, at+len(first))
				wrongFile(t, h.ahead+two(1)+two(index)[:1], api.ErrEnd, at+1)
			}
			s, at := inCode(two(index)+behind, 1, 0)
			wrongFile(t, s, api.ErrIndex, at)
			wrongFile(t, s[:at+2], api.ErrIndex, at)
			wrongFile(t, s[:at+1], api.ErrEnd, at+1)
		}
	}
}

// TestOtherAttributes: they are passed over, of any length, and so is the name of one that counts elsewhere.
func TestOtherAttributes(t *testing.T) {
	for _, name := range []int{tElse, tEmpty, tA, tCode, tMap, tValue} {
		for _, body := range []string{"", "x", "\xff\xff", "abc", codeHead + two(0, 0), strings.Repeat("\x00", 70000)} {
			for _, h := range holders() {
				if name == h.counts {
					continue
				}
				one := attr(name, body)
				for n, many := range []string{"", one, one + one, one + one + attr(tElse, "")} {
					reads(t, h.ahead+two(n)+many+h.behind, h.bare)
				}
				wrongFile(t, h.ahead+two(1, name)+four(len(body)+len(h.behind)+1)+body+h.behind, api.ErrEnd, len(h.ahead)+8+len(body)+len(h.behind))
			}
			if name != tMap {
				s, _ := inCode(attr(name, body), 1, rightLength(attr(name, body)))
				want := holders()[1].bare
				want.Methods[0].HasCode, want.Methods[0].Code = true, api.Code{MaxStack: 2, MaxLocals: 3, Bytes: "\x00\xb1"}
				reads(t, s, want)
			}
		}
	}
}

// TestPassedOver: what is behind and between others counts.
func TestPassedOver(t *testing.T) {
	p := whole()
	more := attr(tElse, "") + attr(tCode, "?") + attr(tMap, "??")
	p.fields = two(2) + fieldHead + two(4) + more + attr(tValue, two(0)) + two(0x12, tM, tInt) + two(6) + attr(tElse, "1") + attr(tValue, two(seven)) + more + attr(tElse, "1")
	other := attr(tValue, "") + attr(tCode, "abc") + attr(tElse, "12345")
	body := codeHead + two(2, 0, 1, 1, 0, 1, 2, 0, cError) + two(7) + other + attr(tMap, "\x00\x00") + other
	around := attr(tValue, "1") + attr(tMap, "")
	p.methods = two(3) + methodHead + two(5) + around + attr(tCode, body) + around + methodHead + two(2) + around + methodHead + two(1) + attr(tCode, codeHead+two(0, 1)+attr(tMap, ""))
	p.attributes = two(4) + attr(tCode, "") + attr(tCode, "x") + attr(tValue, "") + attr(tMap, "x")
	reads(t, p.join(), wholeClass())
	roundTrip(t, p.join())
	writes(t, wholeClass(), whole().join())
}

// TestTwice: told when its length was read, ahead of all that is in it.
func TestTwice(t *testing.T) {
	for _, h := range holders()[:2] {
		one, between := attr(h.counts, h.body), attr(tElse, "ab")
		for _, first := range []string{one, one + between} {
			for _, second := range []string{one, attr(h.counts, ""), attr(h.counts, "x"), two(h.counts) + "\xff\xff\xff\xff", two(h.counts) + "\x00\x00\x00\x02"} {
				at := len(h.ahead) + 2 + len(first)
				wrongFile(t, h.ahead+two(3)+first+second+h.behind, api.ErrTwice, at)
				wrongFile(t, h.ahead+two(3)+first+second[:6], api.ErrTwice, at)
				wrongFile(t, h.ahead+two(3)+first+second[:5], api.ErrEnd, at+5)
			}
		}
	}
	for _, first := range []string{attr(tMap, ""), attr(tMap, "ab"), attr(tMap, "") + attr(tElse, "")} {
		for _, second := range []string{attr(tMap, ""), attr(tMap, "x"), two(tMap) + "\xff\xff\xff\xff"} {
			s, at := inCode(first+second, 3, 0)
			wrongFile(t, s, api.ErrTwice, at+len(first))
			wrongFile(t, s[:at+len(first)+6], api.ErrTwice, at+len(first))
			wrongFile(t, s[:at+len(first)+5], api.ErrEnd, at+len(first)+5)
		}
	}
	// a value of 0 was told too
	h := holders()[0]
	wrongFile(t, h.ahead+two(2)+attr(tValue, two(0))+attr(tValue, two(seven))+h.behind, api.ErrTwice, len(h.ahead)+10)
	// of another field, or method, it is not the second
	p := plain()
	p.fields = two(2) + strings.Repeat(fieldHead+two(1)+attr(tValue, two(seven)), 2)
	p.methods = two(2) + strings.Repeat(methodHead+two(1)+attr(tCode, codeHead+two(0, 1)+attr(tMap, "x")), 2)
	c := plainClass()
	f := api.Field{Flags: 9, Name: tX, Type: tInt, Value: seven}
	m := api.Method{Flags: 8, Name: tM, Type: tVoid, HasCode: true, Code: api.Code{MaxStack: 2, MaxLocals: 3, Bytes: "\x00\xb1", Map: "x"}}
	c.Fields, c.Methods = []api.Field{f, f}, []api.Method{m, m}
	both(t, p.join(), c)
}

// TestLengths: another than that of what was read, told when that was read, wherever the bytes end by it.
func TestLengths(t *testing.T) {
	for _, h := range holders()[:2] {
		at := len(h.ahead) + 2
		right := len(h.body)
		for _, length := range []int{0, 1, right - 1, right + 1, right + 2, right + len(h.behind) + 1, right << 8, 1<<32 - 1} {
			s := h.ahead + two(1, h.counts) + four(length) + h.body
			wrongFile(t, s+h.behind, api.ErrLength, at)
			wrongFile(t, s, api.ErrLength, at)
			wrongFile(t, s+strings.Repeat("\x00", 10)+h.behind, api.ErrLength, at)
			for n := range h.body {
				wrongFile(t, s[:len(s)-1-n], api.ErrEnd, len(s)-1-n)
			}
		}
	}
	// what is wrong within a Code comes ahead of its length
	for _, attributes := range []string{"", attr(tElse, "abc"), attr(tMap, "x")} {
		number := min(len(attributes), 1)
		right := rightLength(attributes)
		for _, length := range []int{0, right - 1, right + 1, right + 2} {
			s, at := inCode(attributes, number, length)
			method := at - rightLength("") - 6
			wrongFile(t, s, api.ErrLength, method)
			s, at = inCode(attributes+two(0), number+1, length)
			wrongFile(t, s, api.ErrIndex, at+len(attributes))
		}
	}
	// the bytes of a map are as many as its length says
	for _, length := range []int{0, 1, 2, 3} {
		body := "abc"[:length]
		s, at := inCode(attr(tMap, body), 1, rightLength(attr(tMap, body)))
		if c, e, _ := Read(s); e != api.OK || c.Methods[0].Code.Map != body {
			t.Errorf("Map = %q, %d", c.Methods[0].Code.Map, e)
		}
		for n := range length {
			wrongFile(t, s[:at+6+n], api.ErrEnd, at+6+n)
		}
	}
}

// TestLengthOfCode: four bytes; none; more than there are.
func TestLengthOfCode(t *testing.T) {
	h := holders()[1]
	for _, length := range []int{0, 1, 256, 65535, 65536, 70000} {
		body := two(0, 0) + four(length) + strings.Repeat("\x2a", length) + two(0, 0)
		c, e, at := Read(h.ahead + two(1) + attr(tCode, body) + h.behind)
		if e != api.OK || at != 0 || !c.Methods[0].HasCode || c.Methods[0].Code.Bytes != strings.Repeat("\x2a", length) {
			t.Errorf("code of %d bytes: %d, %d", length, e, at)
		}
	}
	for _, length := range []string{"\x00\x00\x01\x00", "\x7f\xff\xff\xff", "\x80\x00\x00\x00", "\xff\xff\xff\xff"} {
		s := h.ahead + two(1, tCode) + four(12) + two(0, 0) + length + two(0, 0) + h.behind
		wrongFile(t, s, api.ErrEnd, len(s))
	}
}
