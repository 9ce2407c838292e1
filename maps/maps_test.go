package maps

import (
	"fmt"
	"math/rand"
	"reflect"
	"slices"
	"strings"
	"testing"

	"jvmcore/api"
)

type types = []api.VType

// Types that are told by their tags alone, and others. Those of class are in pool; lost is of a class without a name.
var (
	top   = api.VType{Tag: api.Top}
	num   = api.VType{Tag: api.Int}
	float = api.VType{Tag: api.Float32}
	dbl   = api.VType{Tag: api.Float64}
	long  = api.VType{Tag: api.Int64}
	null  = api.VType{Tag: api.Null}
	this  = api.VType{Tag: api.FreshThis}
	ofA   = api.VType{Tag: api.Object, Name: "A"}
	ofB   = api.VType{Tag: api.Object, Name: "[LB;"}
	lost  = api.VType{Tag: api.Object}
	fresh = api.VType{Tag: api.Fresh, At: 0x0102}
)

// pool: the class A twice, at 3 and 5; [LB; at its end, 7; one that leads to no text at 2.
func pool() []api.Const {
	return []api.Const{
		{}, {Tag: api.Utf8, Text: "A"}, {Tag: api.ClassRef, A: 99}, {Tag: api.ClassRef, A: 1},
		{Tag: api.Utf8, Text: "[LB;"}, {Tag: api.ClassRef, A: 1}, {Tag: api.StringRef, A: 1}, {Tag: api.ClassRef, A: 4},
	}
}

// two: the locals at first in most tests.
func two() types {
	return types{num, ofA}
}

// repeated: a list of n of a type.
func repeated(t api.VType, n int) types {
	return slices.Repeat(types{t}, n)
}

// sameFrames: the same, where no list is an empty list.
func sameFrames(a, b []api.Frame) bool {
	return slices.EqualFunc(a, b, func(x, y api.Frame) bool {
		return x.At == y.At && slices.Equal(x.Locals, y.Locals) && slices.Equal(x.Stack, y.Stack)
	})
}

func brief(x any) string {
	return fmt.Sprintf("%.300s", fmt.Sprint(x))
}

// reads: the bytes are read as the frames.
func reads(t *testing.T, s string, first types, l ...api.Frame) {
	t.Helper()
	if m, e, at := Read(s, pool(), first); !sameFrames(m, l) || e != api.OK || at != 0 {
		t.Errorf("Read(%.60x) = %s, %d, %d, want %s", s, brief(m), e, at, brief(l))
	}
}

// both: the bytes are read as the frames, and the frames written as the bytes.
func both(t *testing.T, s string, first types, l ...api.Frame) {
	t.Helper()
	reads(t, s, first, l...)
	if b, e, k := Write(l, pool(), first); b != s || e != api.OK || k != 0 {
		t.Errorf("Write(%s) = %.60x, %d, %d, want %.60x", brief(l), b, e, k, s)
	}
}

func TestNoFrames(t *testing.T) {
	both(t, "\x00\x00", nil)
	both(t, "\x00\x00", two())
}

func TestLocalsAsAhead(t *testing.T) {
	for _, first := range []types{nil, two(), {lost, fresh}} {
		both(t, "\x00\x01\x00", first, api.Frame{Locals: first})
		both(t, "\x00\x01\x3f", first, api.Frame{At: 63, Locals: first})
		both(t, "\x00\x01\xfb\x00\x40", first, api.Frame{At: 64, Locals: first})
		both(t, "\x00\x01\xfb\xff\xff", first, api.Frame{At: 65535, Locals: first})
		both(t, "\x00\x03\x05\x3f\x00", first, api.Frame{At: 5, Locals: first}, api.Frame{At: 69, Locals: first}, api.Frame{At: 70, Locals: first})
		both(t, "\x00\x02\x00\xfb\x00\x40", first, api.Frame{Locals: first}, api.Frame{At: 65, Locals: first})
	}
}

func TestOneOnTheStack(t *testing.T) {
	stack := types{num}
	for _, first := range []types{nil, two(), {lost, fresh}} {
		both(t, "\x00\x01\x40\x01", first, api.Frame{Locals: first, Stack: stack})
		both(t, "\x00\x01\x7f\x01", first, api.Frame{At: 63, Locals: first, Stack: stack})
		both(t, "\x00\x01\xf7\x00\x40\x01", first, api.Frame{At: 64, Locals: first, Stack: stack})
		both(t, "\x00\x01\xf7\xff\xff\x01", first, api.Frame{At: 65535, Locals: first, Stack: stack})
		// the stack is not that of the frame ahead
		both(t, "\x00\x03\x40\x01\x00\x41\x05", first, api.Frame{Locals: first, Stack: stack}, api.Frame{At: 1, Locals: first}, api.Frame{At: 3, Locals: first, Stack: types{null}})
	}
}

// TestEachType: on the stack, as the last of the locals, and in the midst of others.
func TestEachType(t *testing.T) {
	for _, c := range []struct {
		t api.VType
		s string
	}{
		{top, "\x00"}, {num, "\x01"}, {float, "\x02"}, {dbl, "\x03"}, {long, "\x04"}, {null, "\x05"}, {this, "\x06"},
		{ofA, "\x07\x00\x03"}, {ofB, "\x07\x00\x07"},
		{fresh, "\x08\x01\x02"}, {api.VType{Tag: api.Fresh}, "\x08\x00\x00"}, {api.VType{Tag: api.Fresh, At: 65535}, "\x08\xff\xff"},
	} {
		both(t, "\x00\x01\x40"+c.s, two(), api.Frame{Locals: two(), Stack: types{c.t}})
		both(t, "\x00\x01\xf7\x00\x40"+c.s, two(), api.Frame{At: 64, Locals: two(), Stack: types{c.t}})
		both(t, "\x00\x01\xfc\x00\x01"+c.s, two(), api.Frame{At: 1, Locals: append(two(), c.t)})
		both(t, "\x00\x01\xff\x00\x01\x00\x02\x04"+c.s+"\x00\x03\x02"+c.s+"\x05", two(), api.Frame{At: 1, Locals: types{long, c.t}, Stack: types{float, c.t, null}})
	}
}

func TestFewerLocals(t *testing.T) {
	first := types{num, ofA, long, lost}
	both(t, "\x00\x01\xfa\x00\x00", first, api.Frame{Locals: first[:3]})
	both(t, "\x00\x01\xf9\x00\x3f", first, api.Frame{At: 63, Locals: first[:2]})
	both(t, "\x00\x01\xf8\x01\x02", first, api.Frame{At: 0x0102, Locals: first[:1]})
	both(t, "\x00\x01\xff\x00\x09\x00\x00\x00\x00", first, api.Frame{At: 9})
	both(t, "\x00\x01\xf8\xff\xff", first[:3], api.Frame{At: 65535})
	both(t, "\x00\x01\xf9\x00\x00", first[:2], api.Frame{})
	both(t, "\x00\x01\xfa\x00\x00", first[:1], api.Frame{})
	both(t, "\x00\x03\xfa\x00\x00\x00\xf9\x00\x02", first, api.Frame{Locals: first[:3]}, api.Frame{At: 1, Locals: first[:3]}, api.Frame{At: 4, Locals: first[:1]})
}

func TestMoreLocals(t *testing.T) {
	for _, first := range []types{nil, two(), {lost, fresh}} {
		with := func(l ...api.VType) types { return append(slices.Clone(first), l...) }
		both(t, "\x00\x01\xfc\x00\x00\x04", first, api.Frame{Locals: with(long)})
		both(t, "\x00\x01\xfd\x00\x3f\x00\x07\x00\x03", first, api.Frame{At: 63, Locals: with(top, ofA)})
		both(t, "\x00\x01\xfe\xff\xff\x08\x01\x02\x05\x06", first, api.Frame{At: 65535, Locals: with(fresh, null, this)})
		both(t, "\x00\x04\xfc\x00\x00\x04\x00\xfd\x00\x01\x01\x02\xfa\x00\x00", first, api.Frame{Locals: with(long)}, api.Frame{At: 1, Locals: with(long)}, api.Frame{At: 3, Locals: with(long, num, float)}, api.Frame{At: 4, Locals: with(long, num)})
	}
	both(t, "\x00\x01\xff\x00\x00\x00\x05\x01\x00\x00\x00\x00\x00\x00", types{num}, api.Frame{Locals: types{num, top, top, top, top}})
}

// TestAllTold: what no other form can tell: others of the locals; a stack of two; one, and other locals.
func TestAllTold(t *testing.T) {
	first := types{num, long, num}
	both(t, "\x00\x01\xff\x01\x02\x00\x03\x01\x04\x04\x00\x00", first, api.Frame{At: 0x0102, Locals: types{num, long, long}})
	both(t, "\x00\x01\xff\x00\x00\x00\x03\x04\x04\x01\x00\x00", first, api.Frame{Locals: types{long, long, num}})
	both(t, "\x00\x01\xff\x00\x00\x00\x02\x01\x01\x00\x00", first, api.Frame{Locals: types{num, num}})
	both(t, "\x00\x01\xff\x00\x00\x00\x04\x01\x04\x04\x01\x00\x00", first, api.Frame{Locals: types{num, long, long, num}})
	both(t, "\x00\x01\xff\x00\x00\x00\x03\x01\x04\x01\x00\x02\x02\x03", first, api.Frame{Locals: first, Stack: types{float, dbl}})
	both(t, "\x00\x01\xff\x00\x00\x00\x02\x01\x04\x00\x01\x05", first, api.Frame{Locals: first[:2], Stack: types{null}})
	both(t, "\x00\x01\xff\x00\x00\x00\x04\x01\x04\x01\x06\x00\x01\x05", first, api.Frame{Locals: types{num, long, num, this}, Stack: types{null}})
	both(t, "\x00\x01\xff\xff\xff\x00\x00\x00\x01\x05", first, api.Frame{At: 65535, Stack: types{null}})
	both(t, "\x00\x02\xff\x00\x00\x00\x00\x00\x02\x01\x01\x00", first, api.Frame{Stack: types{num, num}}, api.Frame{At: 1})
	// types of one tag that are of another class, or made at another place
	both(t, "\x00\x01\xff\x00\x00\x00\x01\x07\x00\x03\x00\x00", types{ofB}, api.Frame{Locals: types{ofA}})
	both(t, "\x00\x01\xff\x00\x00\x00\x01\x08\x01\x02\x00\x00", types{{Tag: api.Fresh, At: 0x0101}}, api.Frame{Locals: types{fresh}})
}

// TestLongerForms: other forms than those that are written.
func TestLongerForms(t *testing.T) {
	reads(t, "\x00\x01\xfb\x00\x00", two(), api.Frame{Locals: two()})
	reads(t, "\x00\x01\xfb\x00\x3f", two(), api.Frame{At: 63, Locals: two()})
	reads(t, "\x00\x01\xf7\x00\x3f\x01", two(), api.Frame{At: 63, Locals: two(), Stack: types{num}})
	reads(t, "\x00\x01\xff\x00\x05\x00\x02\x01\x07\x00\x05\x00\x00", two(), api.Frame{At: 5, Locals: two()})
	reads(t, "\x00\x01\xff\x00\x05\x00\x02\x01\x07\x00\x03\x00\x01\x07\x00\x05", two(), api.Frame{At: 5, Locals: two(), Stack: types{ofA}})
	reads(t, "\x00\x01\xff\x00\x05\x00\x00\x00\x00", two(), api.Frame{At: 5})
}

// TestEachTag: in a frame alone, with all that the tag can ask for behind it.
func TestEachTag(t *testing.T) {
	first := types{num, long, ofA}
	for tag := range 256 {
		head := "\x00\x01" + string([]byte{byte(tag)})
		switch {
		case tag <= 63:
			both(t, head, first, api.Frame{At: tag, Locals: first})
		case tag <= 127:
			both(t, head+"\x05", first, api.Frame{At: tag - 64, Locals: first, Stack: types{null}})
		case tag <= 246:
			wrongMap(t, head+"\x00\x00\x00\x00", first, api.ErrMap, 2)
		case tag == 247:
			both(t, head+"\x01\x00\x05", first, api.Frame{At: 256, Locals: first, Stack: types{null}})
		case tag <= 250:
			both(t, head+"\x01\x00", first, api.Frame{At: 256, Locals: first[:tag-248]})
		case tag <= 254:
			both(t, head+"\x01\x00"+strings.Repeat("\x05", tag-251), first, api.Frame{At: 256, Locals: append(slices.Clone(first), repeated(null, tag-251)...)})
		default:
			both(t, head+"\x01\x00\x00\x01\x05\x00\x01\x05", first, api.Frame{At: 256, Locals: types{null}, Stack: types{null}})
		}
	}
}

func TestMostFrames(t *testing.T) {
	var l []api.Frame
	for k := range 65535 {
		l = append(l, api.Frame{At: k, Locals: types{num}})
	}
	both(t, "\xff\xff"+strings.Repeat("\x00", 65535), types{num}, l...)
}

func TestMostTypes(t *testing.T) {
	many := repeated(num, 65535)
	ones := strings.Repeat("\x01", 65535)
	both(t, "\x00\x01\xff\x00\x00\xff\xff"+ones+"\x00\x00", nil, api.Frame{Locals: many})
	both(t, "\x00\x01\xff\x00\x00\x00\x00\xff\xff"+ones, nil, api.Frame{Stack: many})
	both(t, "\x00\x01\xff\x00\x00\xff\xff"+ones+"\xff\xff"+ones, nil, api.Frame{Locals: many, Stack: many})
	both(t, "\x00\x01\xf8\x00\x00", append(many, num, num, num), api.Frame{Locals: many})
	both(t, "\x00\x01\xfe\x00\x00\x01\x01\x01", many[:65532], api.Frame{Locals: many})
}

// TestListsAreNew: nobody else writes into what was handed out, and what is handed in is only read.
func TestListsAreNew(t *testing.T) {
	s := "\x00\x06\x00\x40\x01\xfa\x00\x00\xfd\x00\x00\x04\x04\x00\xff\x00\x00\x00\x01\x02\x00\x01\x03"
	first := append(make(types, 0, 9), num, ofA, long)
	p := pool()
	l, e, _ := Read(s, p, first)
	m, _, _ := Read(s, p, first)
	if e != api.OK || len(l) != 6 {
		t.Fatalf("Read = %v, %d", l, e)
	}
	changed := 0
	for k := range l {
		for _, list := range []types{l[k].Locals, l[k].Stack} {
			list = list[:cap(list)]
			for j := range list {
				if list[j].Tag == 99 {
					t.Errorf("frame %d shares its lists", k)
				}
				list[j] = api.VType{Tag: 99}
				changed++
			}
		}
	}
	if changed < 17 {
		t.Errorf("%d types, want 17 at the least", changed)
	}
	if n, _, _ := Read(s, p, first); !reflect.DeepEqual(m, n) {
		t.Errorf("Read = %v, want %v", n, m)
	}
	if b, e, _ := Write(m, p, first); b != s || e != api.OK {
		t.Errorf("Write = %x, %d", b, e)
	}
	if n, _, _ := Read(s, p, first); !reflect.DeepEqual(m, n) || !slices.Equal(p, pool()) || !slices.Equal(first[:9], append(types{num, ofA, long}, repeated(top, 6)...)) {
		t.Errorf("what was handed in is changed: %v, %v, %v", m, p, first[:9])
	}
}

// someTypes: a list of at most n, of few kinds, so that lists often begin alike.
func someTypes(r *rand.Rand, n int) types {
	var l types
	for range r.Intn(n + 1) {
		l = append(l, types{num, num, num, num, ofA, ofB, long, fresh}[r.Intn(8)])
	}
	return l
}

// someFrames: by places rising, each most often near the one ahead.
func someFrames(r *rand.Rand, first types) []api.Frame {
	var l []api.Frame
	at := -1
	ahead := first
	for range r.Intn(9) {
		at += 1 + []int{0, 1, 62, 63, 64, 65, 300}[r.Intn(7)]
		f := api.Frame{At: at, Stack: someTypes(r, r.Intn(3))}
		kept := len(ahead)
		if r.Intn(2) == 0 {
			kept = r.Intn(kept + 1)
		}
		f.Locals = append(slices.Clone(ahead[:kept]), someTypes(r, r.Intn(6))...)
		l = append(l, f)
		ahead = f.Locals
	}
	return l
}

// size: how many bytes types take.
func size(l types) int {
	n := len(l)
	for _, t := range l {
		if t.Tag == api.Object || t.Tag == api.Fresh {
			n += 2
		}
	}
	return n
}

// fewest: the fewest bytes that a frame can take in any form that tells it.
func fewest(f api.Frame, ahead types, delta int) int {
	few := 7 + size(f.Locals) + size(f.Stack)
	can := func(bytes int, told bool) {
		if told {
			few = min(few, bytes)
		}
	}
	as, none, near := slices.Equal(f.Locals, ahead), len(f.Stack) == 0, delta <= 63
	can(1, as && none && near)
	can(3, as && none)
	can(1+size(f.Stack), as && len(f.Stack) == 1 && near)
	can(3+size(f.Stack), as && len(f.Stack) == 1)
	for n := 1; n <= 3; n++ {
		can(3, none && len(ahead) >= n && slices.Equal(f.Locals, ahead[:len(ahead)-min(n, len(ahead))]))
		if k := len(f.Locals) - n; k >= 0 {
			can(3+size(f.Locals[k:]), none && slices.Equal(f.Locals[:k], ahead))
		}
	}
	return few
}

// TestFewestBytes: of any frames, which are read again as they were.
func TestFewestBytes(t *testing.T) {
	r := rand.New(rand.NewSource(4))
	for range 20000 {
		first := someTypes(r, 5)
		l := someFrames(r, first)
		s, e, k := Write(l, pool(), first)
		if e != api.OK || k != 0 {
			t.Fatalf("Write(%v) by %v = %d, %d", l, first, e, k)
		}
		want, at, ahead := 2, -1, first
		for _, f := range l {
			want += fewest(f, ahead, f.At-at-1)
			at, ahead = f.At, f.Locals
		}
		if len(s) != want {
			t.Errorf("Write(%v) by %v = %x, of %d bytes, want %d", l, first, s, len(s), want)
		}
		reads(t, s, first, l...)
	}
}

// again: what is read is written no longer, and read again as it was. (Places above 65535 and a class that has no name cannot be written.)
func again(t *testing.T, s string, first types) {
	t.Helper()
	l, e, at := Read(s, pool(), first)
	if e != api.OK {
		if l != nil || at < 0 || at > len(s) {
			t.Errorf("Read(%x) = %v, %d, %d", s, l, e, at)
		}
		return
	}
	if at != 0 {
		t.Errorf("Read(%x): place %d", s, at)
	}
	b, e, k := Write(l, pool(), first)
	far := func(f api.Frame) bool { return f.At > 65535 }
	nameless := func(f api.Frame) bool { return slices.Contains(f.Locals, lost) || slices.Contains(f.Stack, lost) }
	if e != api.OK {
		right := k < len(l) && (e == api.ErrMap && far(l[k]) || e == api.ErrIndex && nameless(l[k]))
		if !right || b != "" {
			t.Errorf("Write of Read(%x) = %x, %d, %d", s, b, e, k)
		}
		return
	}
	if len(b) > len(s) || k != 0 {
		t.Errorf("Write of Read(%x) = %x, %d", s, b, k)
	}
	reads(t, b, first, l...)
}

// TestReadAgain: bytes that are often those of frames.
func TestReadAgain(t *testing.T) {
	r := rand.New(rand.NewSource(5))
	often := []byte{0, 1, 2, 3, 5, 7, 8, 63, 64, 127, 247, 248, 249, 250, 251, 252, 253, 254, 255}
	for range 100000 {
		b := []byte{0, byte(r.Intn(5))}
		for range r.Intn(25) {
			b = append(b, often[r.Intn(len(often))])
		}
		again(t, string(b), someTypes(r, 4))
	}
}

func FuzzRead(f *testing.F) {
	f.Add("\x00\x06\x00\x40\x01\xfa\x00\x00\xfd\x00\x00\x04\x04\x00\xff\x00\x00\x00\x01\x02\x00\x01\x03")
	f.Add("\x00\x03\xf7\x00\x40\x07\x00\x03\xfc\x00\x01\x08\x00\x05\x40\x07\x00\x02")
	f.Fuzz(func(t *testing.T, s string) {
		again(t, s, nil)
		again(t, s, types{num, ofA, long, lost})
	})
}
