package consts

import (
	"math"
	"testing"

	"jvmcore/api"
)

// pool: a text at 0, where nothing can be found; texts, classes and a string behind it.
func pool() Pool {
	return Pool{
		{Tag: api.Utf8, Text: "zero"},
		{Tag: api.Utf8, Text: "A"},
		{Tag: api.ClassRef, A: 1},
		{Tag: api.ClassRef, A: 0},
		{Tag: api.ClassRef, A: 99},
		{Tag: api.ClassRef, A: 2},
		{Tag: api.StringRef, A: 1},
		{Tag: api.Utf8},
		{Tag: api.ClassRef, A: 7},
	}
}

func TestAt(t *testing.T) {
	p := pool()
	for index := 1; index < len(p); index++ {
		if c := p.At(index); c != p[index] {
			t.Errorf("At(%d) = %v", index, c)
		}
	}
	for _, index := range []int{math.MinInt, -1, 0, len(p), 65535, math.MaxInt} {
		if c := p.At(index); c != (api.Const{}) {
			t.Errorf("At(%d) = %v", index, c)
		}
		if p.Has(index, api.Utf8, api.ClassRef) {
			t.Errorf("Has(%d)", index)
		}
	}
	if c := Pool(nil).At(1); c != (api.Const{}) {
		t.Errorf("At of no pool = %v", c)
	}
}

func TestHas(t *testing.T) {
	p := pool()
	if !p.Has(1, api.Utf8) || !p.Has(2, api.Utf8, api.ClassRef) || p.Has(2, api.Utf8, api.StringRef) || p.Has(1) {
		t.Error("Has tells other tags")
	}
}

func TestTextAndClass(t *testing.T) {
	for _, c := range []struct {
		index       int
		text, class string
		is, named   bool
	}{
		{-1, "", "", false, false}, {0, "", "", false, false},
		{1, "A", "", true, false}, {2, "", "A", false, true},
		{3, "", "", false, false}, {4, "", "", false, false}, {5, "", "", false, false},
		{6, "", "", false, false}, {7, "", "", true, false}, {8, "", "", false, true}, {9, "", "", false, false},
	} {
		if s, ok := pool().Text(c.index); s != c.text || ok != c.is {
			t.Errorf("Text(%d) = %q, %v", c.index, s, ok)
		}
		if s, ok := pool().Class(c.index); s != c.class || ok != c.named {
			t.Errorf("Class(%d) = %q, %v", c.index, s, ok)
		}
	}
}
