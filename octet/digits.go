package octet

import (
	"strconv"

	"dictum/api"
)

const (
	hexDigits = "0123456789abcdef"
	maxDigits = 10
)

// Hex writes digits.
func Hex(b []byte) string {
	out := make([]byte, 0, 2*len(b))
	for _, c := range b {
		out = append(out, hexDigits[c>>4], hexDigits[c&15])
	}
	return string(out)
}

// Unhex reads digits.
func Unhex(s string) ([]byte, api.Errno) {
	if len(s)%2 != 0 {
		return nil, api.ErrArg
	}
	out := make([]byte, 0, len(s)/2)
	var high uint8
	for i, c := range s { // every digit is one byte, so i counts digits
		d, ok := hexValue(c)
		if !ok {
			return nil, api.ErrArg
		}
		if i%2 == 0 {
			high = d << 4
		} else {
			out = append(out, high|d)
		}
	}
	return out, api.OK
}

func hexValue(c rune) (uint8, bool) {
	switch {
	case c >= '0' && c <= '9':
		return uint8(c - '0'), true
	case c >= 'a' && c <= 'f':
		return uint8(c-'a') + 10, true
	}
	return 0, false
}

// Dec writes a number.
func Dec(n int) string { return strconv.Itoa(n) }

// Undec reads a number.
func Undec(s string, most int) (int, api.Errno) {
	if len(s) == 0 || len(s) > maxDigits {
		return 0, api.ErrArg
	}
	if s[0] == '0' && len(s) > 1 {
		return 0, api.ErrArg
	}
	var n int64 // ten digits may be more than an int has room for
	for _, c := range s {
		if c < '0' || c > '9' {
			return 0, api.ErrArg
		}
		n = n*10 + int64(c-'0')
	}
	if n > int64(most) {
		return 0, api.ErrArg
	}
	return int(n), api.OK
}
