package code

import (
	"testing"

	"jvmcore/api"
)

// decodeFails: the error of Decode, its place, and nothing else.
func decodeFails(t *testing.T, s string, e api.Errno, place int) {
	t.Helper()
	if l, f, at := Decode(s); len(l) != 0 || f != e || at != place {
		t.Errorf("Decode(%.60x) = %s, %d, %d, want %d, %d", s, brief(l), f, at, e, place)
	}
}

func TestDecodeOfNoneAndOfTooMany(t *testing.T) {
	decodeFails(t, "", api.ErrLength, 0)
	decodeFails(t, nops(65536), api.ErrLength, 0)
	decodeFails(t, nops(65536)+"\xff", api.ErrLength, 0)
	decodeFails(t, "\xff"+nops(65535), api.ErrLength, 0)
	decodeFails(t, "\xff"+nops(65534), api.ErrOp, 0)
	decodeFails(t, nops(65534)+"\x10", api.ErrEnd, 65535)
}

// TestDecodeOfTooFewBytes: each instruction, cut short at each of its bytes.
func TestDecodeOfTooFewBytes(t *testing.T) {
	for _, c := range samples() {
		for n := 1; n < len(c.s); n++ {
			decodeFails(t, c.s[:n], api.ErrEnd, n)
			decodeFails(t, "\x00\x00"+c.s[:n], api.ErrEnd, n+2)
		}
	}
	for n := range 4 {
		pad := nops(3 - n)
		for _, s := range []string{
			"\xaa" + pad + words(0, -1, 1, 0, 0, 0), "\xaa" + pad + words(0, -1<<31, -1<<31, 0),
			"\xab" + pad + words(0, 0), "\xab" + pad + words(0, 2, -5, 0, 5, 0),
		} {
			for k := 1; k < len(s); k++ {
				decodeFails(t, nops(n)+s[:k], api.ErrEnd, n+k)
			}
			if _, e, _ := Decode(nops(n) + s); e != api.OK {
				t.Errorf("Decode(%x) = %d", nops(n)+s, e)
			}
		}
	}
}

func TestDecodeOfNoInstruction(t *testing.T) {
	for op := range 256 {
		s := char(uint8(op))
		if isNone(op) {
			decodeFails(t, s, api.ErrOp, 0)
			decodeFails(t, "\x00\x10\x00"+s+nops(9), api.ErrOp, 3)
		}
		if op == 132 || op >= 21 && op <= 25 || op >= 54 && op <= 58 {
			decodeFails(t, "\xc4"+s, api.ErrEnd, 2)
			continue
		}
		decodeFails(t, "\xc4"+s, api.ErrOp, 0)
		decodeFails(t, "\x00\xc4"+s+nops(9), api.ErrOp, 1)
	}
	decodeFails(t, "\x00\xc4", api.ErrEnd, 2)
	decodeFails(t, "\xc4\xc4\x15\x00\x00", api.ErrOp, 0)
}

func TestDecodeOfWrongOperands(t *testing.T) {
	for k := range 256 {
		c := char(uint8(k))
		if k < 4 || k > 11 {
			decodeFails(t, "\x00\xbc"+c, api.ErrOperand, 1)
		}
		if k > 0 {
			decodeFails(t, "\x00\xb9\x00\x01\x01"+c, api.ErrOperand, 1)
		}
	}
	decodeFails(t, "\x00\xb9\x00\x01\x00\x00", api.ErrOperand, 1)
	decodeFails(t, "\x00\xc5\x00\x01\x00", api.ErrOperand, 1)
	// They are looked at when all bytes were read.
	decodeFails(t, "\xb9\x00\x01\x00", api.ErrEnd, 4)
}

func TestDecodeOfWrongSwitches(t *testing.T) {
	for _, op := range []string{"\xaa", "\xab"} {
		for n := range 3 {
			for k := range 3 - n { // one byte of those up to the multiple of 4
				decodeFails(t, nops(n)+op+nops(k)+"\x01", api.ErrOperand, n)
				decodeFails(t, nops(n)+op+nops(k)+"\x80"+nops(30), api.ErrOperand, n)
			}
		}
	}
	ahead := "\x00\xaa\x00\x00"
	decodeFails(t, ahead+words(0, 1, 0), api.ErrOperand, 1)
	decodeFails(t, ahead+words(0, 1<<31-1, -1<<31), api.ErrOperand, 1)
	decodeFails(t, ahead+words(0, 0, -1, 0, 0), api.ErrOperand, 1)
	ahead = "\x00\xab\x00\x00"
	decodeFails(t, ahead+words(0, -1), api.ErrOperand, 1)
	decodeFails(t, ahead+words(0, -1<<31, 0, 0), api.ErrOperand, 1)
	for _, keys := range [][2]int{{1, 1}, {2, 1}, {0, -1}, {-1 << 31, -1 << 31}, {1<<31 - 1, -1 << 31}} {
		decodeFails(t, ahead+words(0, 2, keys[0], 0, keys[1], 0), api.ErrOperand, 1)
		// A key is looked at ahead of its target.
		decodeFails(t, ahead+words(0, 2, keys[0], 0, keys[1]), api.ErrOperand, 1)
		decodeFails(t, ahead+words(0, 3, -1<<31, 0, keys[0], 0, keys[1]), api.ErrOperand, 1)
	}
}

// TestDecodeOfGreatSwitches: numbers for which there are not bytes enough.
func TestDecodeOfGreatSwitches(t *testing.T) {
	for _, behind := range []string{"", "\x00", words(0), words(0, 4), words(0, 4, 8)} {
		for _, high := range []int{3, 4, 1 << 20, 1<<31 - 1} {
			s := "\xaa\x00\x00\x00" + words(0, 0, high) + behind
			decodeFails(t, s, api.ErrEnd, len(s))
		}
		for _, count := range []int{2, 3, 1 << 20, 1<<31 - 1} {
			s := "\xab\x00\x00\x00" + words(0, count) + behind
			decodeFails(t, s, api.ErrEnd, len(s))
		}
	}
	decodeFails(t, "\xaa\x00\x00\x00"+words(0, -1<<31, 1<<31-1)+nops(65519), api.ErrEnd, 65535)
}

func TestDecodeOfWrongTargets(t *testing.T) {
	for _, op := range []string{"\x99", "\xa7", "\xc6", "\xc7"} {
		for _, to := range []string{"\xff\xfe", "\x80\x00", "\x00\x01", "\x00\x02", "\x00\x04", "\x00\x05", "\x7f\xff"} {
			decodeFails(t, "\x00"+op+to+"\x10\x00", api.ErrTarget, 1) // 4 from there is within the 16
		}
	}
	for _, to := range []int{-2, 1, 4, 6, 7, 1<<31 - 1, -1 << 31} {
		decodeFails(t, "\x00\xc8"+words(to)+"\x00", api.ErrTarget, 1)
		for k := range 3 {
			l := []int{0, 0, 0}
			l[k] = to
			decodeFails(t, "\x00\xaa\x00\x00"+words(l[0], 0, 1, l[1], l[2]), api.ErrTarget, 1)
			decodeFails(t, "\x00\xab\x00\x00"+words(l[0], 2, 0, l[1], 1, l[2]), api.ErrTarget, 1)
		}
	}
	// Into a wide one, behind its 196; and that it is told of the first, but behind all else.
	decodeFails(t, "\xa7\x00\x04\xc4\x15\x00\x00", api.ErrTarget, 0)
	decodeFails(t, "\x00\xa7\x00\x01\xa7\x00\x01", api.ErrTarget, 1)
	decodeFails(t, "\xa7\x00\x03\xa7\x00\x01", api.ErrTarget, 3)
	decodeFails(t, "\xa7\x00\x01\xba", api.ErrOp, 3)
	decodeFails(t, "\xa7\x00\x01\xbc\x00", api.ErrOperand, 3)
	decodeFails(t, "\xa7\x00\x01\x11\x00", api.ErrEnd, 5)
}

func TestDecodeTellsTheFirstError(t *testing.T) {
	decodeFails(t, "\xbc\x00\xff", api.ErrOperand, 0)
	decodeFails(t, "\xff\xbc\x00", api.ErrOp, 0)
	decodeFails(t, "\x00\xab\x00\x00"+words(0, -1)+"\xff", api.ErrOperand, 1)
}
