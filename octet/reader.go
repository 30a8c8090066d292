package octet

import (
	"bytes"
	"unicode/utf8"

	"dictum/api"
)

// 2^64 - 1 has nine groups of seven bits and one bit besides.
const maxNumBytes = 10

// Reader takes pieces apart.
type Reader struct {
	rest []byte
	made bool // a Reader of no bytes is not one that no call made
}

// NewReader reads bytes.
func NewReader(b []byte) *Reader {
	return &Reader{rest: bytes.Clone(b), made: true}
}

func (r *Reader) usable() bool { return r != nil && r.made }

// U8 reads a byte.
func (r *Reader) U8() (uint8, api.Errno) {
	if !r.usable() {
		return 0, api.ErrNil
	}
	if len(r.rest) == 0 {
		return 0, api.ErrShort
	}
	v := r.rest[0]
	r.rest = r.rest[1:]
	return v, api.OK
}

// Num reads a number.
func (r *Reader) Num() (uint64, api.Errno) {
	if !r.usable() {
		return 0, api.ErrNil
	}
	v, used, e := leadingNum(r.rest)
	if e != api.OK {
		return 0, e
	}
	r.rest = r.rest[used:]
	return v, api.OK
}

// Text reads a text.
func (r *Reader) Text() (string, api.Errno) {
	if !r.usable() {
		return "", api.ErrNil
	}
	size, used, e := leadingNum(r.rest)
	if e != api.OK {
		return "", e
	}
	if size > api.MaxText {
		return "", api.ErrLong
	}
	end := used + int(size)
	if end > len(r.rest) {
		return "", api.ErrShort
	}
	s := string(r.rest[used:end])
	if !utf8.ValidString(s) {
		return "", api.ErrText
	}
	r.rest = r.rest[end:]
	return s, api.OK
}

// Left tells how many bytes are left.
func (r *Reader) Left() int {
	if !r.usable() {
		return 0
	}
	return len(r.rest)
}

// End tells whether nothing is left.
func (r *Reader) End() api.Errno {
	if !r.usable() {
		return api.ErrNil
	}
	if len(r.rest) > 0 {
		return api.ErrLong
	}
	return api.OK
}

// leadingNum answers the number with which b begins, and how many bytes it takes; it takes none itself, so that a refusal further on can leave all of it.
func leadingNum(b []byte) (uint64, int, api.Errno) {
	var v uint64
	for i, c := range b {
		// Only bit 63 is left to the tenth byte: more than that, and so one that says that an eleventh follows, is past 2^64 - 1, whether or not the eleventh is there.
		if i == maxNumBytes-1 && c > 1 {
			return 0, 0, api.ErrLong
		}
		v |= uint64(c&(more-1)) << (groupBits * i)
		if c >= more {
			continue
		}
		if c == 0 && i > 0 {
			return 0, 0, api.ErrLong
		}
		return v, i + 1, api.OK
	}
	return 0, 0, api.ErrShort
}
