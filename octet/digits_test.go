package octet_test

import (
	"bytes"
	"encoding/hex"
	"math"
	"strconv"
	"testing"

	"dictum/api"
	"dictum/octet"
)

// TestHex is P1.4: two small digits a byte, there and back.
func TestHex(t *testing.T) {
	if s := octet.Hex([]byte{0x00, 0x0a, 0xa0, 0x09, 0x90, 0xff}); s != "000aa00990ff" {
		t.Error(s)
	}
	var all []byte
	for v := range 256 {
		all = append(all, byte(v))
	}
	for _, b := range [][]byte{nil, {}, {0}, all} {
		s := octet.Hex(b)
		if s != hex.EncodeToString(b) {
			t.Error(s)
		}
		if got, e := octet.Unhex(s); e != api.OK || !bytes.Equal(got, b) {
			t.Errorf("Unhex(%q): % x, error %d", s, got, e)
		}
	}
}

// TestHexDoesNotKeep is R3.
func TestHexDoesNotKeep(t *testing.T) {
	b := []byte{1, 2}
	s := octet.Hex(b)
	b[0] = 9
	if s != "0102" {
		t.Error(s)
	}
}

// TestUnhexRefused is P1.4: an odd number of digits, and what is none at either place of a byte.
func TestUnhexRefused(t *testing.T) {
	list := []string{"0", "abc", "0A", "A0", "FF", "0x", "0x00", " 00", "00 ", "0 0", "+1", "-1", "é", "éé", "٠٠", "00é", "\xff\xff", "\x00\x00", "0\n"}
	for v := range 256 {
		if c := byte(v); (c < '0' || c > '9') && (c < 'a' || c > 'f') {
			list = append(list, string([]byte{c, '0'}), string([]byte{'0', c}), string([]byte{'0', '1', c, '2'}))
		}
	}
	for _, s := range list {
		if got, e := octet.Unhex(s); e != api.ErrArg || len(got) != 0 {
			t.Errorf("Unhex(%q): % x, error %d", s, got, e)
		}
	}
}

// TestDec is P1.4.
func TestDec(t *testing.T) {
	for _, c := range []struct {
		n    int
		want string
	}{{0, "0"}, {7, "7"}, {-7, "-7"}, {10, "10"}, {-10, "-10"}, {1000000, "1000000"}, {999999999, "999999999"}} {
		if s := octet.Dec(c.n); s != c.want {
			t.Errorf("Dec(%d): %q", c.n, s)
		}
	}
	for _, n := range []int{math.MaxInt, math.MaxInt - 1, math.MinInt, math.MinInt + 1} {
		if s := octet.Dec(n); s != strconv.FormatInt(int64(n), 10) {
			t.Errorf("Dec(%d): %q", n, s)
		}
	}
}

// TestUndec is P1.4: numbers of at most most.
func TestUndec(t *testing.T) {
	for _, c := range []struct {
		s    string
		most int
		want int
	}{
		{"0", 0, 0}, {"0", 9, 0}, {"7", 7, 7}, {"12", 12, 12}, {"100", math.MaxInt, 100}, {"1234567890", math.MaxInt, 1234567890},
		{"9999999999", 9999999999, 9999999999}, {"9999999999", math.MaxInt, 9999999999}, {"4294967296", math.MaxInt, 4294967296},
	} {
		if n, e := octet.Undec(c.s, c.most); n != c.want || e != api.OK {
			t.Errorf("Undec(%q, %d): %d, error %d", c.s, c.most, n, e)
		}
	}
}

// TestUndecRefused is P1.4: no digits, too many, a nought ahead, too great.
func TestUndecRefused(t *testing.T) {
	for _, c := range []struct {
		s    string
		most int
	}{
		{"", 9}, {"07", 99}, {"00", 99}, {"01", 99}, {"0000000000", 99},
		{"10000000000", math.MaxInt}, {"99999999999", math.MaxInt}, {"00000000001", math.MaxInt}, {"18446744073709551616", math.MaxInt},
		{"12", 11}, {"1", 0}, {"9999999999", 9999999998}, {"0", -1}, {"1", -1}, {"0", math.MinInt},
		{"-1", 9}, {"-0", 9}, {"+1", 9}, {" 1", 9}, {"1 ", 9}, {"1_0", 99}, {"1.0", 99}, {"1e1", 99}, {"a", 99}, {"1a", 99}, {"a1", 99},
		{"/", 99}, {":", 99}, {"1/", 99}, {"1:", 99}, {"٣", 99}, {"1٣", 99}, {"é", 99}, {"\xff", 99}, {"1\xff", 99}, {"\x00", 99}, {"1\n", 99},
	} {
		if n, e := octet.Undec(c.s, c.most); n != 0 || e != api.ErrArg {
			t.Errorf("Undec(%q, %d): %d, error %d", c.s, c.most, n, e)
		}
	}
}
