// Package octet is layer 1: see shared/doc/01-octet.md.
package octet

import (
	"unicode/utf8"

	"dictum/api"
)

// A number goes out by seven bits a byte; the eighth says that another byte follows.
const (
	groupBits = 7
	more      = 1 << groupBits
)

// Writer puts pieces together.
type Writer struct{ B []byte }

// U8 appends a byte.
func (w *Writer) U8(v uint8) {
	if w == nil {
		return
	}
	w.B = append(w.B, v)
}

// Num appends a number.
func (w *Writer) Num(v uint64) {
	if w == nil {
		return
	}
	for v >= more {
		w.B = append(w.B, uint8(v)|more)
		v >>= groupBits
	}
	w.B = append(w.B, uint8(v))
}

// Text appends a text.
func (w *Writer) Text(s string) api.Errno {
	if w == nil {
		return api.ErrNil
	}
	if !utf8.ValidString(s) {
		return api.ErrText
	}
	if len(s) > api.MaxText {
		return api.ErrLong
	}
	w.Num(uint64(len(s)))
	w.B = append(w.B, s...)
	return api.OK
}
