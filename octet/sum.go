package octet

import (
	"bytes"

	"dictum/api"
)

const (
	castagnoli = 0x82F63B78
	sumBytes   = 4
)

// Sum is the check sum of bytes.
func Sum(parts ...[]byte) uint32 {
	sum := ^uint32(0)
	for _, part := range parts {
		for _, c := range part {
			sum = sumByte(sum, c)
		}
	}
	return ^sum
}

func sumByte(sum uint32, c uint8) uint32 {
	sum ^= uint32(c)
	for range 8 {
		low := sum & 1
		sum >>= 1
		if low == 1 {
			sum ^= castagnoli
		}
	}
	return sum
}

// Seal puts the sum behind.
func Seal(b []byte) []byte {
	sum := Sum(b)
	sealed := make([]byte, 0, len(b)+sumBytes)
	sealed = append(sealed, b...)
	return append(sealed, uint8(sum), uint8(sum>>8), uint8(sum>>16), uint8(sum>>24))
}

// Open looks at the sum and takes it off.
func Open(b []byte) ([]byte, api.Errno) {
	if len(b) < sumBytes {
		return nil, api.ErrShort
	}
	size := len(b) - sumBytes
	sealed := Seal(b[:size])
	if !bytes.Equal(sealed, b) {
		return nil, api.ErrSum
	}
	return sealed[:size:size], api.OK
}
