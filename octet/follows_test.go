package octet_test

import (
	"bytes"
	"encoding/binary"
	"math/rand/v2"
	"testing"

	"dictum/api"
	"dictum/octet"
)

// TestWrittenIsRead is P1.5: pieces of all kinds in a row are read again, and nothing is left.
func TestWrittenIsRead(t *testing.T) {
	numbers, texts := edgeNumbers(), goodTexts()
	chance := rand.New(rand.NewPCG(2, 3))
	for range 300 {
		w := octet.Writer{}
		var check []func(r *octet.Reader) bool
		for range chance.IntN(12) {
			switch chance.IntN(3) {
			case 0:
				want := uint8(chance.Uint32())
				w.U8(want)
				check = append(check, func(r *octet.Reader) bool { v, e := r.U8(); return v == want && e == api.OK })
			case 1:
				want := numbers[chance.IntN(len(numbers))]
				w.Num(want)
				check = append(check, func(r *octet.Reader) bool { v, e := r.Num(); return v == want && e == api.OK })
			default:
				want := texts[chance.IntN(len(texts))]
				w.Text(want)
				check = append(check, func(r *octet.Reader) bool { v, e := r.Text(); return v == want && e == api.OK })
			}
		}
		r := octet.NewReader(w.B)
		for i, ok := range check {
			if !ok(r) {
				t.Fatalf("piece %d of % x", i, w.B)
			}
		}
		if r.Left() != 0 || r.End() != api.OK {
			t.Fatalf("% x: %d left", w.B, r.Left())
		}
	}
}

// TestOneForm is P1.5: whatever bytes are taken as a number are those that Num writes of it.
func TestOneForm(t *testing.T) {
	one := func(b []byte) {
		r := octet.NewReader(b)
		v, e := r.Num()
		if e != api.OK {
			return
		}
		w := octet.Writer{}
		w.Num(v)
		if used := b[:len(b)-r.Left()]; !bytes.Equal(w.B, used) {
			t.Errorf("% x and % x are both %d", w.B, used, v)
		}
	}
	for a := range 256 {
		for b := range 256 {
			one([]byte{byte(a), byte(b), 0})
		}
	}
	for _, v := range edgeNumbers() {
		b := binary.AppendUvarint(nil, v)
		for i := range b {
			for c := range 256 {
				turned := bytes.Clone(b)
				turned[i] = byte(c)
				one(turned)
			}
		}
		for extra := range 4 {
			padded := bytes.Clone(b)
			padded[len(padded)-1] |= 0x80
			one(append(append(padded, repeated(0x80, extra)...), 0))
		}
	}
}

// turned answers b with the bits of a pattern turned from one bit on, a byte's lowest bit first.
func turned(b []byte, from int, pattern uint32) []byte {
	out := bytes.Clone(b)
	for i := range 32 {
		if pattern>>i&1 == 1 {
			out[(from+i)/8] ^= 1 << ((from + i) % 8)
		}
	}
	return out
}

// TestBurstsAreTold is P1.5: whatever up to 32 neighbouring bits are turned, within the bytes, the sum, or over the border of both.
func TestBurstsAreTold(t *testing.T) {
	chance := rand.New(rand.NewPCG(4, 5))
	for _, many := range []int{0, 1, 2, 5, 30} {
		sealed := octet.Seal(someBytes(many))
		for from := range 8 * len(sealed) {
			for long := 1; long <= 32 && from+long <= 8*len(sealed); long++ {
				ends := uint32(1) | 1<<(long-1)
				full := ^uint32(0) >> (32 - long)
				for _, pattern := range []uint32{ends, full, ends | chance.Uint32()&full, ends | chance.Uint32()&full} {
					if b, e := octet.Open(turned(sealed, from, pattern)); e != api.ErrSum || len(b) != 0 {
						t.Fatalf("%d bytes, bits %08x from %d: error %d", many, pattern, from, e)
					}
				}
			}
		}
	}
}

// TestUndecOfDec is P1.5.
func TestUndecOfDec(t *testing.T) {
	const most = 9999999999
	one := func(n int) {
		if got, e := octet.Undec(octet.Dec(n), most); got != n || e != api.OK {
			t.Errorf("%d: %d, error %d", n, got, e)
		}
		if got, e := octet.Undec(octet.Dec(n), n); got != n || e != api.OK {
			t.Errorf("%d of at most itself: %d, error %d", n, got, e)
		}
		if _, e := octet.Undec(octet.Dec(n), n-1); e != api.ErrArg {
			t.Errorf("%d of at most one less: error %d", n, e)
		}
	}
	for n := range 2000 {
		one(n)
		one(most - n)
	}
	for n := 1; n < most; n *= 10 {
		one(n - 1)
		one(n)
		one(n + 1)
	}
	if _, e := octet.Undec(octet.Dec(most+1), most+1); e != api.ErrArg {
		t.Error("a number of eleven digits:", e)
	}
	if _, e := octet.Undec(octet.Dec(-1), most); e != api.ErrArg {
		t.Error("a number below 0:", e)
	}
}
