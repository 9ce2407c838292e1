package wire

import (
	"testing"

	"jvmcore/api"
)

func TestNumbersHaveTheHighestByteFirst(t *testing.T) {
	r := NewReader("\x01\x02\x03\xff\xfe\xfd\xfc\x80\x00\x00\x00\x00\x00\x00\x07ab")
	if x := r.Uint8(); x != 1 {
		t.Errorf("Uint8 = %d", x)
	}
	if x := r.Uint16(); x != 0x0203 {
		t.Errorf("Uint16 = %#x", x)
	}
	if x := r.Number(4); x != 0xfffefdfc {
		t.Errorf("Number(4) = %#x", x)
	}
	if x := r.Number(8); x != 0x8000000000000007 {
		t.Errorf("Number(8) = %#x", x)
	}
	if at := r.At(); at != 15 {
		t.Errorf("At = %d", at)
	}
	if s := r.Take(2); s != "ab" || !r.Good() {
		t.Errorf("Take(2) = %q, %v", s, r.Good())
	}
	if e, place := r.Err(); e != api.OK || place != 0 {
		t.Errorf("Err = %d, %d", e, place)
	}
}

func TestSignedNumbers(t *testing.T) {
	r := NewReader("\x7f\x80\xff\x7f\xff\x80\x00\x7f\xff\xff\xff\x80\x00\x00\x00\xff\xff\xff\xff\xff\xff\xff\xfe")
	for _, c := range []struct {
		size int
		want int64
	}{{1, 127}, {1, -128}, {1, -1}, {2, 32767}, {2, -32768}, {4, 1<<31 - 1}, {4, -1 << 31}, {0, 0}, {8, -2}, {0, 0}} {
		if x := r.Signed(c.size); x != c.want || !r.Good() {
			t.Errorf("Signed(%d) = %d, want %d", c.size, x, c.want)
		}
	}
	if x := r.Signed(1); x != 0 || r.Good() {
		t.Errorf("Signed past the end = %d, %v", x, r.Good())
	}
}

func TestTheFirstErrorStays(t *testing.T) {
	r := NewReader("\x01\x02\x03")
	r.Uint8()
	if x := r.Number(4); x != 0 {
		t.Errorf("Number past the end = %d", x)
	}
	if x := r.Uint8(); x != 0 {
		t.Errorf("Uint8 behind an error = %d", x)
	}
	r.Fail(api.ErrTag, 1)
	if e, place := r.Err(); e != api.ErrEnd || place != 3 || r.Good() {
		t.Errorf("Err = %d, %d, want %d, 3", e, place, api.ErrEnd)
	}
	r = NewReader("\x01")
	r.Fail(api.ErrTag, 0)
	if s := r.Take(2); s != "" {
		t.Errorf("Take behind an error = %q", s)
	}
	if e, place := r.Err(); e != api.ErrTag || place != 0 {
		t.Errorf("Err = %d, %d, want %d, 0", e, place, api.ErrTag)
	}
}

func TestRest(t *testing.T) {
	r := NewReader("abc")
	if s := r.Rest(); s != "abc" || r.At() != 0 {
		t.Errorf("Rest at the beginning = %q, then at %d", s, r.At())
	}
	r.Take(1)
	if s := r.Rest(); s != "bc" || r.At() != 1 {
		t.Errorf("Rest behind a byte = %q, then at %d", s, r.At())
	}
	r.Take(2)
	if s := r.Rest(); s != "" || !r.Good() {
		t.Errorf("Rest at the end = %q, %v", s, r.Good())
	}
	r = NewReader("abc")
	r.Fail(api.ErrTag, 0)
	if s := r.Rest(); s != "" {
		t.Errorf("Rest behind an error = %q", s)
	}
}

func TestFinish(t *testing.T) {
	r := NewReader("ab")
	r.Take(1)
	r.Finish()
	if e, place := r.Err(); e != api.ErrRest || place != 1 {
		t.Errorf("Finish within the bytes: %d, %d, want %d, 1", e, place, api.ErrRest)
	}
	r = NewReader("ab")
	r.Take(2)
	r.Finish()
	if e, place := r.Err(); e != api.OK || place != 0 {
		t.Errorf("Finish behind the bytes: %d, %d", e, place)
	}
	r.Take(1)
	r.Finish()
	if e, place := r.Err(); e != api.ErrEnd || place != 2 {
		t.Errorf("Finish behind an error: %d, %d, want %d, 2", e, place, api.ErrEnd)
	}
}

func TestAppend(t *testing.T) {
	b := Append([]byte("x"), 2, 1, 0xfffe)
	b = Append(b, 8, 0x8000000000000007)
	if want := "x\x00\x01\xff\xfe\x80\x00\x00\x00\x00\x00\x00\x07"; string(b) != want {
		t.Errorf("Append = %x, want %x", b, want)
	}
}
