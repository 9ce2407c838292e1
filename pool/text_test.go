package pool

import (
	"slices"
	"strings"
	"testing"
	"unicode/utf8"
)

func TestEveryUnitComesBack(t *testing.T) {
	var all []uint16
	for k := range 65536 {
		u := uint16(k)
		s := Text([]uint16{u})
		if l, ok := Units(s); !ok || !slices.Equal(l, []uint16{u}) {
			t.Fatalf("Units(Text(%d)) = %v, %v by %x", u, l, ok, s)
		}
		// But for 0 and the surrogates, a unit is written as UTF-8 has it.
		if k > 0 && utf8.ValidRune(rune(k)) && s != string(rune(k)) {
			t.Fatalf("Text(%d) = %x", u, s)
		}
		all = append(all, u)
	}
	if l, ok := Units(Text(all)); !ok || !slices.Equal(l, all) {
		t.Errorf("all units together do not come back: %d of them, %v", len(l), ok)
	}
}

func TestEdgesOfTexts(t *testing.T) {
	for _, c := range []struct {
		u uint16
		s string
	}{
		{0, "\xc0\x80"}, {1, "\x01"}, {127, "\x7f"}, {128, "\xc2\x80"}, {2047, "\xdf\xbf"}, {2048, "\xe0\xa0\x80"},
		{0xd7ff, "\xed\x9f\xbf"}, {0xd800, "\xed\xa0\x80"}, {0xdfff, "\xed\xbf\xbf"}, {65535, "\xef\xbf\xbf"},
	} {
		if s := Text([]uint16{c.u}); s != c.s {
			t.Errorf("Text(%d) = %x, want %x", c.u, s, c.s)
		}
		if l, ok := Units("a" + c.s + "b"); !ok || !slices.Equal(l, []uint16{'a', c.u, 'b'}) {
			t.Errorf("Units(a %x b) = %v, %v", c.s, l, ok)
		}
	}
	if s := Text(nil); s != "" {
		t.Errorf("Text of nothing = %x", s)
	}
	if l, ok := Units(""); !ok || len(l) != 0 {
		t.Errorf("Units of nothing = %v, %v", l, ok)
	}
}

func TestNoTexts(t *testing.T) {
	for _, s := range []string{
		"\x00", "\x80", "\xbf", "\xf0\x90\x80\x80", "\xf8", "\xff", // begins no unit
		"\xc0\x81", "\xc1\xbf", "\xe0\x80\x80", "\xe0\x81\x81", "\xe0\x9f\xbf", // takes fewer
		"\xc2", "\xe0", "\xe0\xa0", // ends too soon
		"\xc2a", "\xc2\xc2", "\xe0\xa0a", "\xe0a\x80", "\xe0\xa0\xc0", // goes on as none does
	} {
		for _, ahead := range []string{"", "a", "\xc0\x80"} {
			if l, ok := Units(ahead + s); ok || len(l) != 0 {
				t.Errorf("Units(%x) = %v, %v", ahead+s, l, ok)
			}
		}
	}
}

// All texts of up to three bytes: as many as there are lists of units that take so many, and each is written as it was.
func TestAllShortTexts(t *testing.T) {
	const one, two, three = 127, 1921, 63488
	want := []int{1, one, one*one + two, one*one*one + 2*one*two + three}
	for size, n := range want {
		got := 0
		b := make([]byte, size)
		for k := range 1 << (8 * size) {
			for i := range b {
				b[i] = byte(k >> (8 * i))
			}
			l, ok := Units(string(b))
			if ok && Text(l) != string(b) {
				t.Fatalf("Text(Units(%x)) = %x", b, Text(l))
			}
			if ok {
				got++
			}
		}
		if got != n {
			t.Errorf("%d texts of %d bytes, want %d", got, size, n)
		}
	}
}

func TestLongTexts(t *testing.T) {
	s := strings.Repeat("a\xc0\x80\xe0\xa0\x80", 40000)
	l, ok := Units(s)
	if !ok || len(l) != 120000 || Text(l) != s {
		t.Errorf("a text of %d bytes: %d units, %v", len(s), len(l), ok)
	}
	if l, ok := Units(s + "\x00"); ok || len(l) != 0 {
		t.Errorf("a text with a wrong end: %d units, %v", len(l), ok)
	}
}
