package octet_test

import (
	"bytes"
	"hash/crc32"
	"math/rand/v2"
	"testing"

	"dictum/api"
	"dictum/octet"
)

// someBytes are the same at every run.
func someBytes(many int) []byte {
	chance := rand.New(rand.NewPCG(1, uint64(many)))
	b := make([]byte, many)
	for i := range b {
		b[i] = byte(chance.Uint32())
	}
	return b
}

// TestSum is P1.3: known sums, and the library's.
func TestSum(t *testing.T) {
	for _, c := range []struct {
		s    string
		want uint32
	}{{"", 0}, {"123456789", 0xe3069283}, {"a", 0xc1d04330}, {string(make([]byte, 32)), 0x8a9136aa}, {string(repeated(0xff, 32)), 0x62a8ab43}} {
		if sum := octet.Sum([]byte(c.s)); sum != c.want {
			t.Errorf("Sum of %q: %08x, not %08x", c.s, sum, c.want)
		}
	}
	table := crc32.MakeTable(crc32.Castagnoli)
	for v := range 256 {
		if b := []byte{byte(v)}; octet.Sum(b) != crc32.Checksum(b, table) {
			t.Errorf("Sum of %02x: %08x", v, octet.Sum(b))
		}
	}
	for many := range 100 {
		if b := someBytes(many); octet.Sum(b) != crc32.Checksum(b, table) {
			t.Errorf("Sum of %d bytes: %08x", many, octet.Sum(b))
		}
	}
}

// TestSumParts is P1.3: the parts one behind the other, however they are cut.
func TestSumParts(t *testing.T) {
	b := someBytes(20)
	want := octet.Sum(b)
	if octet.Sum() != 0 || octet.Sum(nil) != 0 || octet.Sum(nil, nil, []byte{}) != 0 {
		t.Error("the sum of nothing is not 0")
	}
	for i := range len(b) + 1 {
		for j := i; j <= len(b); j++ {
			if octet.Sum(b[:i], b[i:j], nil, b[j:]) != want {
				t.Errorf("cut at %d and %d", i, j)
			}
		}
	}
	if octet.Sum(b[10:], b[:10]) == want {
		t.Error("the order of the parts does not count")
	}
}

// TestSeal is P1.3: b, and the sum's lowest byte first.
func TestSeal(t *testing.T) {
	b := []byte("123456789")
	sealed := octet.Seal(b)
	if !bytes.Equal(sealed, append(bytes.Clone(b), 0x83, 0x92, 0x06, 0xe3)) {
		t.Errorf("% x", sealed)
	}
	if empty := octet.Seal(nil); !bytes.Equal(empty, make([]byte, 4)) {
		t.Errorf("% x", empty)
	}
}

// TestOpen is P1.3: what Seal made, what is too short, what does not fit.
func TestOpen(t *testing.T) {
	for many := range 40 {
		b := someBytes(many)
		if got, e := octet.Open(octet.Seal(b)); e != api.OK || !bytes.Equal(got, b) {
			t.Errorf("%d bytes: % x, error %d", many, got, e)
		}
	}
	for many := range 4 {
		if got, e := octet.Open(make([]byte, many)); e != api.ErrShort || len(got) != 0 {
			t.Errorf("%d bytes: error %d", many, e)
		}
	}
	if got, e := octet.Open(nil); e != api.ErrShort || len(got) != 0 {
		t.Error(e)
	}
	for _, b := range [][]byte{
		{0, 0, 0, 1}, {1, 0, 0, 0}, {255, 255, 255, 255}, {0, 0, 0, 0, 0},
		append([]byte("123456789"), 0xe3, 0x06, 0x92, 0x83),
		append([]byte("023456789"), 0x83, 0x92, 0x06, 0xe3),
	} {
		if got, e := octet.Open(b); e != api.ErrSum || len(got) != 0 {
			t.Errorf("% x: % x, error %d", b, got, e)
		}
	}
}

// TestSealsOwnMemory is P1.3 and R3: answers share nothing with what is handed in, which is not changed.
func TestSealsOwnMemory(t *testing.T) {
	room := []byte("pq----")
	b := room[:2]
	sealed := octet.Seal(b)
	if string(room) != "pq----" {
		t.Errorf("Seal changed %q", room)
	}
	was := bytes.Clone(sealed)
	clear(room)
	if !bytes.Equal(sealed, was) {
		t.Error("Seal shares memory")
	}
	opened, e := octet.Open(sealed)
	if e != api.OK || !bytes.Equal(sealed, was) {
		t.Error(e, sealed)
	}
	clear(sealed)
	if string(opened) != "pq" {
		t.Errorf("Open shares memory: %q", opened)
	}
}

// TestOpenLengthAlone is R7: a sum in the room behind the end is none.
func TestOpenLengthAlone(t *testing.T) {
	sealed := octet.Seal([]byte("pq"))
	if _, e := octet.Open(sealed[:3]); e != api.ErrShort {
		t.Error(e)
	}
	if _, e := octet.Open(sealed[:5]); e != api.ErrSum {
		t.Error(e)
	}
}
