package octet_test

import (
	"bytes"
	"testing"

	"dictum/api"
	"dictum/octet"
)

// TestExampleNumbers is the chapter's example 1.
func TestExampleNumbers(t *testing.T) {
	w := octet.Writer{}
	w.Num(300)
	w.Num(0)
	if octet.Hex(w.B) != "ac0200" {
		t.Errorf("% x", w.B)
	}
	for _, c := range []struct {
		s string
		e api.Errno
	}{{"ac8200", api.ErrLong}, {"80", api.ErrShort}, {"ffffffffffffffffff02", api.ErrLong}} {
		b, e := octet.Unhex(c.s)
		if e != api.OK {
			t.Fatal(c.s, e)
		}
		if v, e := octet.NewReader(b).Num(); v != 0 || e != c.e {
			t.Errorf("%s: %d, error %d", c.s, v, e)
		}
	}
}

// TestExampleTextAndSum is the chapter's example 2.
func TestExampleTextAndSum(t *testing.T) {
	w := octet.Writer{}
	if e := w.Text("p"); e != api.OK || !bytes.Equal(w.B, []byte{0x01, 0x70}) {
		t.Errorf("% x, error %d", w.B, e)
	}
	b := []byte("123456789")
	if sum := octet.Sum(b); sum != 0xe3069283 {
		t.Errorf("%08x", sum)
	}
	if s := octet.Hex(octet.Seal(b)[len(b):]); s != "839206e3" {
		t.Error(s)
	}
}

// TestExampleDigits is the chapter's example 3.
func TestExampleDigits(t *testing.T) {
	if s := octet.Dec(-7); s != "-7" {
		t.Error(s)
	}
	if n, e := octet.Undec("07", 99); n != 0 || e != api.ErrArg {
		t.Error(n, e)
	}
	if n, e := octet.Undec("12", 11); n != 0 || e != api.ErrArg {
		t.Error(n, e)
	}
}
