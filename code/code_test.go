package code

import (
	"fmt"
	"math/rand"
	"reflect"
	"slices"
	"strings"
	"testing"

	"jvmcore/api"
)

// sample: an instruction at place 0, and its bytes.
type sample struct {
	i api.Ins
	s string
}

// samples: of each kind but the switches, at the edges of its bytes. Branches lead to themselves.
func samples() []sample {
	self := []int{0}
	l := []sample{
		{api.Ins{Op: 16, A: -128}, "\x10\x80"}, {api.Ins{Op: 16, A: 127}, "\x10\x7f"},
		{api.Ins{Op: 17, A: -32768}, "\x11\x80\x00"}, {api.Ins{Op: 17, A: 32767}, "\x11\x7f\xff"},
		{api.Ins{Op: 18}, "\x12\x00"}, {api.Ins{Op: 18, A: 255}, "\x12\xff"},
		{api.Ins{Op: 132, A: 255, B: -128}, "\x84\xff\x80"}, {api.Ins{Op: 132, B: 127}, "\x84\x00\x7f"},
		{api.Ins{Op: 132, Wide: true, A: 65535, B: -32768}, "\xc4\x84\xff\xff\x80\x00"}, {api.Ins{Op: 132, Wide: true, A: 1, B: 32767}, "\xc4\x84\x00\x01\x7f\xff"},
		{api.Ins{Op: 200, Targets: self}, "\xc8\x00\x00\x00\x00"},
		{api.Ins{Op: 185, A: 65535, B: 1}, "\xb9\xff\xff\x01\x00"}, {api.Ins{Op: 185, B: 255}, "\xb9\x00\x00\xff\x00"},
		{api.Ins{Op: 188, A: 4}, "\xbc\x04"}, {api.Ins{Op: 188, A: 11}, "\xbc\x0b"},
		{api.Ins{Op: 197, A: 65535, B: 1}, "\xc5\xff\xff\x01"}, {api.Ins{Op: 197, B: 255}, "\xc5\x00\x00\xff"},
	}
	for _, op := range []uint8{19, 20, 178, 179, 180, 181, 182, 183, 184, 187, 189, 192, 193} {
		l = append(l, sample{api.Ins{Op: op, A: 0x0102}, char(op) + "\x01\x02"}, sample{api.Ins{Op: op, A: 65535}, char(op) + "\xff\xff"})
	}
	for _, op := range []uint8{21, 22, 23, 24, 25, 54, 55, 56, 57, 58} {
		l = append(l, sample{api.Ins{Op: op, A: 255}, char(op) + "\xff"}, sample{api.Ins{Op: op, Wide: true, A: 0xff00}, "\xc4" + char(op) + "\xff\x00"}, sample{api.Ins{Op: op, Wide: true, A: 3}, "\xc4" + char(op) + "\x00\x03"})
	}
	for op := uint8(153); op <= 199; op++ {
		if op <= 167 || op >= 198 {
			l = append(l, sample{api.Ins{Op: op, Targets: self}, char(op) + "\x00\x00"})
		}
	}
	for op := range 256 {
		if isPlain(op) {
			l = append(l, sample{api.Ins{Op: uint8(op)}, char(uint8(op))})
		}
	}
	return l
}

// isPlain: is it an instruction without operands? (Told here by the names' ranges: constants, loads, array loads, stores, ...)
func isPlain(op int) bool {
	for _, r := range [][2]int{{0, 15}, {26, 53}, {59, 131}, {133, 152}, {172, 177}, {190, 191}, {194, 195}} {
		if r[0] <= op && op <= r[1] {
			return true
		}
	}
	return false
}

func isNone(op int) bool {
	return op == 168 || op == 169 || op == 186 || op >= 201
}

func char(op uint8) string {
	return string([]byte{op})
}

func nops(n int) string {
	return strings.Repeat("\x00", n)
}

// words: numbers of four bytes each.
func words(l ...int) string {
	var b []byte
	for _, x := range l {
		b = append(b, byte(x>>24), byte(x>>16), byte(x>>8), byte(x))
	}
	return string(b)
}

// listOfNops: n of them, from place 0 on.
func listOfNops(n int) []api.Ins {
	var l []api.Ins
	for k := range n {
		l = append(l, api.Ins{At: k})
	}
	return l
}

// moved: the instruction, on by n.
func moved(i api.Ins, n int) api.Ins {
	i.At += n
	i.Targets = slices.Clone(i.Targets)
	for k := range i.Targets {
		i.Targets[k] += n
	}
	return i
}

func brief(x any) string {
	return fmt.Sprintf("%.300s", fmt.Sprint(x))
}

// both: the instructions and the bytes belong together.
func both(t *testing.T, l []api.Ins, s string) {
	t.Helper()
	if b, e, k := Encode(l); b != s || e != api.OK || k != 0 {
		t.Errorf("Encode(%s) = %.60x, %d, %d, want %.60x", brief(l), b, e, k, s)
	}
	if m, e, at := Decode(s); !reflect.DeepEqual(m, l) || e != api.OK || at != 0 {
		t.Errorf("Decode(%.60x) = %s, %d, %d, want %s", s, brief(m), e, at, brief(l))
	}
}

func TestEachInstruction(t *testing.T) {
	for _, c := range samples() {
		both(t, []api.Ins{c.i}, c.s)
		for n := 1; n < 5; n++ {
			both(t, append(listOfNops(n), moved(c.i, n), api.Ins{At: n + len(c.s), Op: 177}), nops(n)+c.s+"\xb1")
		}
	}
}

func TestManyInstructions(t *testing.T) {
	var l []api.Ins
	s := ""
	for _, c := range samples() {
		l = append(l, moved(c.i, len(s)))
		s += c.s
	}
	both(t, l, s)
}

func TestBranches(t *testing.T) {
	// To the first and the last instruction, and as far as two bytes reach.
	both(t, []api.Ins{{}, {At: 1, Op: 167, Targets: []int{0}}, {At: 4, Op: 153, Targets: []int{7}}, {At: 7, Op: 199, Targets: []int{7}}}, "\x00\xa7\xff\xff\x99\x00\x03\xc7\x00\x00")
	far := append(listOfNops(32768), api.Ins{At: 32768, Op: 198, Targets: []int{0}})
	both(t, far, nops(32768)+"\xc6\x80\x00")
	ahead := []api.Ins{{Op: 166, Targets: []int{32767}}}
	for _, i := range listOfNops(32768)[3:] {
		ahead = append(ahead, i)
	}
	both(t, ahead, "\xa6\x7f\xff"+nops(32765))
	both(t, append(far[:32768:32768], api.Ins{At: 32768, Op: 200, Targets: []int{1}}), nops(32768)+"\xc8\xff\xff\x80\x01")
}

// TestSwitchesAtEachPlace: with the bytes up to a multiple of 4.
func TestSwitchesAtEachPlace(t *testing.T) {
	for n := range 9 {
		pad := nops([]int{3, 2, 1, 0}[n%4])
		head := n + 1 + len(pad)
		ahead := listOfNops(n)
		for _, low := range []int{0, -1, 5, -1 << 31, 1<<31 - 2} {
			end := head + 20
			both(t, append(ahead[:n:n], api.Ins{At: n, Op: 170, Low: low, Targets: []int{end, n, end}}, api.Ins{At: end}), nops(n)+"\xaa"+pad+words(end-n, low, low+1, 0, end-n)+"\x00")
		}
		end := head + 16
		both(t, append(ahead[:n:n], api.Ins{At: n, Op: 170, Low: 1<<31 - 1, Targets: []int{0, end}}, api.Ins{At: end}), nops(n)+"\xaa"+pad+words(-n, 1<<31-1, 1<<31-1, end-n)+"\x00")
		end = head + 8
		both(t, append(ahead[:n:n], api.Ins{At: n, Op: 171, Targets: []int{end}}, api.Ins{At: end}), nops(n)+"\xab"+pad+words(end-n, 0)+"\x00")
		end = head + 32
		both(t, append(ahead[:n:n], api.Ins{At: n, Op: 171, Keys: []int{-1 << 31, 0, 1<<31 - 1}, Targets: []int{end, 0, n, end}}, api.Ins{At: end}), nops(n)+"\xab"+pad+words(end-n, 3, -1<<31, -n, 0, 0, 1<<31-1, end-n)+"\x00")
	}
}

func TestMostBytes(t *testing.T) {
	both(t, listOfNops(1), nops(1))
	both(t, listOfNops(65535), nops(65535))
	keys := 65528 / 8 // the last byte is one of 65535
	i := api.Ins{Op: 171, Targets: []int{0}}
	s := "\xab\x00\x00\x00" + words(0, keys-1)
	for k := range keys - 1 {
		i.Keys = append(i.Keys, k*3)
		i.Targets = append(i.Targets, 0)
		s += words(k*3, 0)
	}
	both(t, []api.Ins{i, {At: len(s), Op: 177}}, s+"\xb1")
}

// TestListsAreNew: nobody else writes into what was handed out, and what is handed in is only read.
func TestListsAreNew(t *testing.T) {
	s := "\xab\x00\x00\x00" + words(0, 1, 7, 0) + "\xa7\xff\xec"
	l, _, _ := Decode(s)
	m, _, _ := Decode(s)
	l[0].Keys[0], l[0].Targets[0], l[0].Targets[1], l[1].Targets[0] = 1, 2, 3, 4
	_ = append(l[0].Keys, 5)
	_ = append(l[0].Targets, 6)
	if n, _, _ := Decode(s); !reflect.DeepEqual(m, n) || !slices.Equal(l[0].Targets, []int{2, 3}) || !slices.Equal(l[1].Targets, []int{4}) {
		t.Errorf("Decode = %v, %v, %v", l, m, n)
	}
	Encode(m)
	Check(m, nil, 0)
	if n, _, _ := Decode(s); !reflect.DeepEqual(m, n) {
		t.Errorf("changed to %v", m)
	}
}

// randomIns: an instruction that may stand at a place; its targets are of starts.
func randomIns(r *rand.Rand, at int, starts []int) api.Ins {
	all := samples()
	target := func() int { return starts[r.Intn(len(starts))] }
	switch r.Intn(8) {
	case 0:
		i := api.Ins{At: at, Op: 170, Low: r.Intn(9) - 4, Targets: []int{target(), target()}}
		for range r.Intn(4) {
			i.Targets = append(i.Targets, target())
		}
		return i
	case 1:
		i := api.Ins{At: at, Op: 171, Targets: []int{target()}}
		for k := range r.Intn(4) {
			i.Keys = append(i.Keys, 10*k+r.Intn(10)-20)
			i.Targets = append(i.Targets, target())
		}
		return i
	}
	i := moved(all[r.Intn(len(all))].i, at)
	for k := range i.Targets {
		i.Targets[k] = target()
	}
	return i
}

func TestRandomInstructions(t *testing.T) {
	r := rand.New(rand.NewSource(3))
	for range 300 {
		var l []api.Ins
		starts := []int{0}
		for range 1 + r.Intn(20) {
			l = append(l, randomIns(r, starts[len(starts)-1], starts))
			s, e, k := Encode(l)
			if m, f, at := Decode(s); e != api.OK || k != 0 || f != api.OK || at != 0 || !reflect.DeepEqual(m, l) {
				t.Fatalf("Encode(%v) = %x, %d, %d; Decode = %v, %d, %d", l, s, e, k, m, f, at)
			}
			starts = append(starts, len(s))
		}
	}
}

// FuzzDecode: what is read is written as it was; what is not tells nothing but its error.
func FuzzDecode(f *testing.F) {
	for _, c := range samples() {
		f.Add(c.s)
		f.Add("\x00\x1a" + c.s[:len(c.s)-1])
	}
	f.Add("\xaa\x00\x00\x00" + words(0, -1, 1, 0, 0, 0))
	f.Add("\xab\x00\x00\x00" + words(0, 2, -1, 0, 1, 0))
	f.Add("\xab\x00\x00\x00" + words(0, 1<<31-1, -1, 0, 1, 0))
	f.Fuzz(func(t *testing.T, s string) {
		l, e, at := Decode(s)
		if e != api.OK {
			if len(l) != 0 || at < 0 || at > len(s) || e == api.ErrEnd && at != len(s) {
				t.Errorf("Decode(%x) = %v, %d, %d", s, l, e, at)
			}
			return
		}
		if b, f, k := Encode(l); b != s || f != api.OK || k != 0 || at != 0 {
			t.Errorf("Decode(%x) = %v, %d; Encode = %x, %d, %d", s, l, at, b, f, k)
		}
		Check(l, nil, 3)
	})
}
