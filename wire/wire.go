// Package wire: numbers and texts in bytes, the highest byte first: reading them to the first error, and writing them.
package wire

import "jvmcore/api"

// Reader: reads bytes from left to right. Its first error stays, and from then on all that is read is zero, so that a reader of more needs to look for errors only where it would loop.
type Reader struct {
	bytes string
	at    int
	errno api.Errno
	place int
}

// NewReader: at the beginning of s.
func NewReader(s string) Reader {
	return Reader{bytes: s}
}

// At: the place of the next byte.
func (r *Reader) At() int {
	return r.at
}

// Err: the first error, and its place; OK and 0 if there was none.
func (r *Reader) Err() (api.Errno, int) {
	return r.errno, r.place
}

// Good: was there no error yet?
func (r *Reader) Good() bool {
	return r.errno == api.OK
}

// Fail: an error at a place; one after the first is of no matter.
func (r *Reader) Fail(e api.Errno, place int) {
	if r.Good() {
		r.errno, r.place = e, place
	}
}

// Take: the next n bytes; ErrEnd, behind the last byte, if there are fewer.
func (r *Reader) Take(n int) string {
	if n > len(r.bytes)-r.at {
		r.Fail(api.ErrEnd, len(r.bytes))
	}
	if !r.Good() {
		return ""
	}
	s := r.bytes[r.at : r.at+n]
	r.at += n
	return s
}

// Rest: the bytes that are left, which stay unread; none after an error.
func (r *Reader) Rest() string {
	if !r.Good() {
		return ""
	}
	return r.bytes[r.at:]
}

// Number: the next n bytes, 8 at most, as a number.
func (r *Reader) Number(n int) uint64 {
	var x uint64
	for _, b := range []byte(r.Take(n)) {
		x = x<<8 | uint64(b)
	}
	return x
}

// Signed: the next n bytes, 8 at most, as a number whose highest bit is its sign.
func (r *Reader) Signed(n int) int64 {
	above := 64 - 8*n
	return int64(r.Number(n)<<above) >> above
}

// Uint8: the next byte.
func (r *Reader) Uint8() uint8 {
	return uint8(r.Number(1))
}

// Uint16: the next two bytes.
func (r *Reader) Uint16() uint16 {
	return uint16(r.Number(2))
}

// Finish: ErrRest, where bytes are left.
func (r *Reader) Finish() {
	if r.at < len(r.bytes) {
		r.Fail(api.ErrRest, r.at)
	}
}

// Append: b, and behind it the n lowest bytes of each number.
func Append(b []byte, n int, numbers ...uint64) []byte {
	for _, x := range numbers {
		for k := n - 1; k >= 0; k-- {
			b = append(b, byte(x>>(8*k)))
		}
	}
	return b
}
