package octet_test

import (
	"bytes"
	"encoding/binary"
	"math"
	"strings"
	"testing"

	"dictum/api"
	"dictum/octet"
)

// edgeNumbers are 0, 2^64 - 1, and both sides of every place where one more byte or bit is needed.
func edgeNumbers() []uint64 {
	out := []uint64{0, 300, math.MaxUint64}
	for shift := range 64 {
		n := uint64(1) << shift
		out = append(out, n-1, n, n+1)
	}
	return out
}

// badTexts are no UTF-8: lone and missing continuations, surrogates, longer forms, above 10FFFF.
func badTexts() []string {
	return []string{
		"\x80", "\xff", "p\xc3", "\xe2\x88", "\xf0\x9f\x98", "\xc3(", "ok\xfe",
		"\xed\xa0\x80", "\xed\xbf\xbf",
		"\xc0\x80", "\xc1\xbf", "\xe0\x80\x80", "\xe0\x9f\xbf", "\xf0\x80\x80\x80", "\xf0\x8f\xbf\xbf",
		"\xf4\x90\x80\x80", "\xf5\x80\x80\x80", "\xf8\x88\x80\x80\x80",
	}
}

func goodTexts() []string {
	return []string{"", "p", "p -> q", "a\x00b", "é", "⊥", "\u07ff\u0800\ud7ff\ue000\uffff\U00010000\U0010ffff", "\ufffd", strings.Repeat("x", 127), strings.Repeat("x", 128)}
}

// TestWriterU8 is P1.1: a byte.
func TestWriterU8(t *testing.T) {
	w := octet.Writer{}
	var want []byte
	for v := range 256 {
		w.U8(uint8(v))
		want = append(want, byte(v))
	}
	if !bytes.Equal(w.B, want) {
		t.Errorf("% x", w.B)
	}
}

// TestWriterNum is P1.1: seven bits a byte, in as few bytes as may be.
func TestWriterNum(t *testing.T) {
	for _, c := range []struct {
		v    uint64
		want []byte
	}{
		{0, []byte{0}}, {1, []byte{1}}, {127, []byte{127}}, {128, []byte{0x80, 1}}, {300, []byte{0xac, 2}},
		{16383, []byte{0xff, 0x7f}}, {16384, []byte{0x80, 0x80, 1}},
		{1<<63 - 1, []byte{255, 255, 255, 255, 255, 255, 255, 255, 127}},
		{1 << 63, []byte{128, 128, 128, 128, 128, 128, 128, 128, 128, 1}},
		{math.MaxUint64, []byte{255, 255, 255, 255, 255, 255, 255, 255, 255, 1}},
	} {
		w := octet.Writer{}
		w.Num(c.v)
		if !bytes.Equal(w.B, c.want) {
			t.Errorf("Num(%d): % x, not % x", c.v, w.B, c.want)
		}
	}
	for _, v := range edgeNumbers() {
		w := octet.Writer{}
		w.Num(v)
		if want := binary.AppendUvarint(nil, v); !bytes.Equal(w.B, want) {
			t.Errorf("Num(%d): % x, not % x", v, w.B, want)
		}
	}
}

// TestWriterText is P1.1: how many bytes, not runes, and then the bytes.
func TestWriterText(t *testing.T) {
	for _, s := range append(goodTexts(), strings.Repeat("p", api.MaxText), strings.Repeat("é", api.MaxText/2)) {
		w := octet.Writer{B: []byte{7}}
		e := w.Text(s)
		want := append(binary.AppendUvarint([]byte{7}, uint64(len(s))), s...)
		if e != api.OK || !bytes.Equal(w.B, want) {
			t.Errorf("a text of %d bytes: error %d", len(s), e)
		}
	}
}

// TestWriterTextRefused is P1.1: the errors in their order, and nothing appended.
func TestWriterTextRefused(t *testing.T) {
	type refused struct {
		s string
		e api.Errno
	}
	long := strings.Repeat("p", api.MaxText)
	list := []refused{
		{long + "p", api.ErrLong},
		{strings.Repeat("é", api.MaxText/2) + "p", api.ErrLong},
		{long + "\xff", api.ErrText},
		{"\xff" + long, api.ErrText},
		{long[1:] + "é"[:1], api.ErrText},
	}
	for _, s := range badTexts() {
		list = append(list, refused{s, api.ErrText})
	}
	for _, c := range list {
		w := octet.Writer{B: []byte{1, 2}}
		if e := w.Text(c.s); e != c.e || !bytes.Equal(w.B, []byte{1, 2}) {
			t.Errorf("a text of %d bytes that ends with %q: error %d, not %d; %d bytes", len(c.s), c.s[max(0, len(c.s)-4):], e, c.e, len(w.B))
		}
	}
}

// TestWriterAppends is P1.1: any Writer appends, and what stood in B stays.
func TestWriterAppends(t *testing.T) {
	w := &octet.Writer{B: []byte{9, 8}}
	w.U8(7)
	w.Num(300)
	w.B = append(w.B, 6)
	w.Text("p")
	if !bytes.Equal(w.B, []byte{9, 8, 7, 0xac, 2, 6, 1, 'p'}) {
		t.Errorf("% x", w.B)
	}
	w.B = w.B[:1]
	w.U8(5)
	if !bytes.Equal(w.B, []byte{9, 5}) {
		t.Errorf("% x", w.B)
	}
}

// TestNilWriter is P1.1 and R1.
func TestNilWriter(t *testing.T) {
	var w *octet.Writer
	w.U8(1)
	w.Num(300)
	for _, s := range []string{"", "p", "\xff", strings.Repeat("p", api.MaxText+1)} {
		if e := w.Text(s); e != api.ErrNil {
			t.Error(len(s), e)
		}
	}
}

// TestWritersApart is R4: what one Writer is given is not seen in another.
func TestWritersApart(t *testing.T) {
	var a, b octet.Writer
	a.U8(1)
	b.U8(2)
	a.Num(3)
	if !bytes.Equal(a.B, []byte{1, 3}) || !bytes.Equal(b.B, []byte{2}) {
		t.Error(a.B, b.B)
	}
}
