package octet_test

import (
	"bytes"
	"encoding/binary"
	"math"
	"strings"
	"testing"

	"dictum/api"
	"dictum/octet"
)

// sized lays a length ahead of bytes that need be no text.
func sized(size uint64, rest string) []byte {
	return append(binary.AppendUvarint(nil, size), rest...)
}

func repeated(c byte, many int, behind ...byte) []byte {
	return append(bytes.Repeat([]byte{c}, many), behind...)
}

// TestReaderU8 is P1.2.
func TestReaderU8(t *testing.T) {
	r := octet.NewReader([]byte{0, 128, 255})
	for i, want := range []uint8{0, 128, 255} {
		if v, e := r.U8(); v != want || e != api.OK || r.Left() != 2-i {
			t.Error(i, v, e, r.Left())
		}
	}
	for range 2 {
		if v, e := r.U8(); v != 0 || e != api.ErrShort || r.Left() != 0 {
			t.Error(v, e, r.Left())
		}
	}
}

// TestReaderNum is P1.2: numbers in as few bytes as may be, with and without bytes behind.
func TestReaderNum(t *testing.T) {
	for _, v := range edgeNumbers() {
		for _, behind := range []string{"", "\x00", "\xff\xff"} {
			r := octet.NewReader(append(binary.AppendUvarint(nil, v), behind...))
			if got, e := r.Num(); got != v || e != api.OK || r.Left() != len(behind) {
				t.Errorf("%d: %d, error %d, %d left", v, got, e, r.Left())
			}
		}
	}
}

// TestReaderNumRefused is P1.2: what is wrong with a number, and that nothing is taken.
func TestReaderNumRefused(t *testing.T) {
	for _, c := range []struct {
		b []byte
		e api.Errno
	}{
		{nil, api.ErrShort},
		{[]byte{0x80}, api.ErrShort},
		{[]byte{0xac}, api.ErrShort},
		{repeated(0x80, 9), api.ErrShort},
		{repeated(0xff, 9), api.ErrShort},
		{[]byte{0x80, 0}, api.ErrLong},
		{[]byte{0xac, 0x82, 0}, api.ErrLong},
		{[]byte{0x81, 0x80, 0x80, 0, 5}, api.ErrLong},
		{repeated(0xff, 8, 0), api.ErrLong},
		{repeated(0xff, 9, 0), api.ErrLong},
		{repeated(0xff, 9, 2), api.ErrLong},
		{repeated(0xff, 9, 3), api.ErrLong},
		{repeated(0xff, 9, 0x7f), api.ErrLong},
		{repeated(0x80, 9, 2), api.ErrLong},
		{repeated(0x80, 10), api.ErrLong},
		{repeated(0xff, 10), api.ErrLong},
		{repeated(0x80, 9, 0x81), api.ErrLong},
		{repeated(0x80, 9, 0x81, 0), api.ErrLong},
		{repeated(0x80, 9, 0x81, 1), api.ErrLong},
		{repeated(0xff, 20), api.ErrLong},
		{repeated(0x80, 20, 1), api.ErrLong},
	} {
		r := octet.NewReader(c.b)
		for range 2 {
			if v, e := r.Num(); v != 0 || e != c.e || r.Left() != len(c.b) {
				t.Errorf("Num of % x: %d, error %d, not %d, %d left", c.b, v, e, c.e, r.Left())
			}
		}
		if s, e := r.Text(); s != "" || e != c.e || r.Left() != len(c.b) {
			t.Errorf("Text of % x: %q, error %d, not %d, %d left", c.b, s, e, c.e, r.Left())
		}
		if len(c.b) > 0 {
			if v, e := r.U8(); v != c.b[0] || e != api.OK {
				t.Errorf("U8 of % x: %d, error %d", c.b, v, e)
			}
		}
	}
}

// TestReaderNumAllShort holds every row of up to three bytes, from a few, against the library's reader.
func TestReaderNumAllShort(t *testing.T) {
	some := []byte{0, 1, 2, 0x7f, 0x80, 0x81, 0xff}
	rows := [][]byte{nil}
	for at := 0; at < len(rows); at++ {
		if b := rows[at]; len(b) < 3 {
			for _, c := range some {
				rows = append(rows, append(bytes.Clone(b), c))
			}
		}
	}
	for _, b := range rows {
		want, used := binary.Uvarint(b)
		wrong := api.OK
		if used == 0 {
			wrong = api.ErrShort
		} else if used > 1 && b[used-1] == 0 {
			want, used, wrong = 0, 0, api.ErrLong
		}
		r := octet.NewReader(b)
		if v, e := r.Num(); v != want || e != wrong || r.Left() != len(b)-used {
			t.Errorf("% x: %d, error %d, %d left", b, v, e, r.Left())
		}
	}
}

// TestReaderText is P1.2.
func TestReaderText(t *testing.T) {
	for _, s := range append(goodTexts(), strings.Repeat("p", api.MaxText), strings.Repeat("é", api.MaxText/2)) {
		r := octet.NewReader(append(sized(uint64(len(s)), s), 1, 2))
		if got, e := r.Text(); got != s || e != api.OK || r.Left() != 2 {
			t.Errorf("a text of %d bytes: %d bytes, error %d, %d left", len(s), len(got), e, r.Left())
		}
	}
}

// TestReaderTextRefused is P1.2: the errors in their order, and nothing taken, not even the length.
func TestReaderTextRefused(t *testing.T) {
	type refused struct {
		b []byte
		e api.Errno
	}
	long := strings.Repeat("p", api.MaxText+1)
	list := []refused{
		{sized(api.MaxText+1, long), api.ErrLong},
		{sized(api.MaxText+1, ""), api.ErrLong},
		{sized(math.MaxInt64, "p"), api.ErrLong},
		{sized(1<<63, "p"), api.ErrLong},
		{sized(math.MaxUint64, "p"), api.ErrLong},
		{sized(1<<32, "p"), api.ErrLong},
		{sized(api.MaxText+1, "\xff"+long[1:]), api.ErrLong},
		{[]byte{0x81, 0, 'p'}, api.ErrLong},
		{sized(1, ""), api.ErrShort},
		{sized(3, "pq"), api.ErrShort},
		{sized(api.MaxText, long[2:]), api.ErrShort},
		{sized(3, "\xff\xff"), api.ErrShort},
		{sized(1, "é"), api.ErrText},
		{sized(2, "⊥"), api.ErrText},
		{sized(api.MaxText, long[2:]+"\xff"), api.ErrText},
	}
	for _, s := range badTexts() {
		list = append(list, refused{append(sized(uint64(len(s)), s), 'p'), api.ErrText})
	}
	for _, c := range list {
		r := octet.NewReader(c.b)
		if s, e := r.Text(); s != "" || e != c.e || r.Left() != len(c.b) {
			t.Errorf("%d bytes that begin with % x: %d bytes, error %d, not %d, %d left", len(c.b), c.b[:min(4, len(c.b))], len(s), e, c.e, r.Left())
		}
		if v, e := r.U8(); v != c.b[0] || e != api.OK {
			t.Errorf("the byte after a refusal: %d, error %d", v, e)
		}
	}
}

// TestReaderEnd is P1.2: End and Left take nothing.
func TestReaderEnd(t *testing.T) {
	for many := 1; many < 4; many++ {
		r := octet.NewReader(make([]byte, many))
		if e := r.End(); e != api.ErrLong || r.Left() != many {
			t.Error(many, e, r.Left())
		}
	}
	r := octet.NewReader([]byte{1, 'p'})
	if s, e := r.Text(); s != "p" || e != api.OK {
		t.Error(s, e)
	}
	for range 2 {
		if e := r.End(); e != api.OK || r.Left() != 0 {
			t.Error(e, r.Left())
		}
	}
	for _, b := range [][]byte{nil, {}} {
		r := octet.NewReader(b)
		_, e1 := r.U8()
		_, e2 := r.Num()
		_, e3 := r.Text()
		if e1 != api.ErrShort || e2 != api.ErrShort || e3 != api.ErrShort || r.Left() != 0 || r.End() != api.OK {
			t.Error(e1, e2, e3, r.Left(), r.End())
		}
	}
}

// TestReaderNotMade is P1.2 and R1.
func TestReaderNotMade(t *testing.T) {
	for _, r := range []*octet.Reader{nil, {}, new(octet.Reader)} {
		for range 2 {
			v1, e1 := r.U8()
			v2, e2 := r.Num()
			v3, e3 := r.Text()
			if v1 != 0 || v2 != 0 || v3 != "" || e1 != api.ErrNil || e2 != api.ErrNil || e3 != api.ErrNil {
				t.Error(v1, v2, v3, e1, e2, e3)
			}
			if r.Left() != 0 || r.End() != api.ErrNil {
				t.Error(r.Left(), r.End())
			}
		}
	}
}

// TestReaderKeepsBytes is P1.2: b as it was then; and reading does not change b.
func TestReaderKeepsBytes(t *testing.T) {
	b := []byte{1, 'p', 5, 0xac, 2}
	was := bytes.Clone(b)
	r, other := octet.NewReader(b), octet.NewReader(b)
	clear(b)
	s, e1 := r.Text()
	v, e2 := r.U8()
	n, e3 := r.Num()
	if s != "p" || v != 5 || n != 300 || e1 != api.OK || e2 != api.OK || e3 != api.OK || r.End() != api.OK {
		t.Error(s, v, n, e1, e2, e3)
	}
	if other.Left() != len(was) {
		t.Error("two readers are not apart")
	}
	octet.NewReader(was).Text()
	if !bytes.Equal(was, []byte{1, 'p', 5, 0xac, 2}) {
		t.Error(was)
	}
}

// TestReaderLengthAlone is R7: what stands in the room behind the end is not read.
func TestReaderLengthAlone(t *testing.T) {
	b := []byte{0x80, 1, 2, 3}
	if _, e := octet.NewReader(b[:1]).Num(); e != api.ErrShort {
		t.Error(e)
	}
	if r := octet.NewReader(b[:0]); r.Left() != 0 || r.End() != api.OK {
		t.Error(r.Left(), r.End())
	}
}
