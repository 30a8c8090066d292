package token_test

import (
	"math"
	"testing"
	"unicode/utf8"

	"dictum/api"
	"dictum/token"
)

func spot(line, col, off int) api.Spot { return api.Spot{Line: line, Col: col, Off: off} }

// TestAt is P2.1: lines are told by byte 10 alone, columns by runes.
func TestAt(t *testing.T) {
	for _, c := range []struct {
		s    string
		off  int
		want api.Spot
	}{
		{"pq", 0, spot(1, 1, 0)},
		{"pq", 1, spot(1, 2, 1)},
		{"pq", 2, spot(1, 3, 2)},
		{"p\nq", 1, spot(1, 2, 1)}, // the byte 10 itself
		{"p\nq", 2, spot(2, 1, 2)},
		{"p\nq", 3, spot(2, 2, 3)},
		{"\n\n\n", 0, spot(1, 1, 0)},
		{"\n\n\n", 1, spot(2, 1, 1)},
		{"\n\n\n", 3, spot(4, 1, 3)},
		{"a\r\nb", 2, spot(1, 3, 2)}, // 13 is a rune as others are
		{"a\r\nb", 3, spot(2, 1, 3)},
		{"\r\r", 2, spot(1, 3, 2)},
		{"\t\tp", 2, spot(1, 3, 2)},
		{"\v\f\x00\x7fp", 4, spot(1, 5, 4)},
		{"\u0085\u2028\u2029p", 8, spot(1, 4, 8)}, // what else ends lines elsewhere
		{"→∨p", 3, spot(1, 2, 3)},
		{"→∨p", 6, spot(1, 3, 6)},
		{"\n→\n¬p", 7, spot(3, 2, 7)},
		{"p𝔸q", 5, spot(1, 3, 5)},
	} {
		if got := token.At(c.s, c.off); got != c.want {
			t.Errorf("At(%q, %d): %v, not %v", c.s, c.off, got, c.want)
		}
	}
}

// TestAtEdges is P2.1: the empty text, and off outside of the text.
func TestAtEdges(t *testing.T) {
	for _, off := range []int{math.MinInt, -7, -1, 0} {
		for _, s := range []string{"", "p", "\np", "→", "\xff"} {
			if got := token.At(s, off); got != spot(1, 1, 0) {
				t.Errorf("At(%q, %d): %v", s, off, got)
			}
		}
	}
	for _, c := range []struct {
		s    string
		want api.Spot
	}{{"", spot(1, 1, 0)}, {"p", spot(1, 2, 1)}, {"\n", spot(2, 1, 1)}, {"p\n→q", spot(2, 3, 6)}, {"\xe2\x86", spot(1, 3, 2)}} {
		for _, more := range []int{0, 1, 2, 1000, math.MaxInt - 10} {
			if got := token.At(c.s, len(c.s)+more); got != c.want {
				t.Errorf("At(%q, length + %d): %v", c.s, more, got)
			}
		}
		if got := token.At(c.s, math.MaxInt); got != c.want {
			t.Errorf("At(%q, greatest): %v", c.s, got)
		}
	}
}

// TestAtWithinRune is P2.1: a rune that begins ahead of off counts, though it ends behind it.
func TestAtWithinRune(t *testing.T) {
	for off, col := range []int{1, 2, 3, 3, 3, 4, 5, 5, 5, 5} {
		if got := token.At("p→q𝔸", off); got != spot(1, col, off) {
			t.Errorf("off %d: %v, not column %d", off, got, col)
		}
	}
	if got := token.At("\n→", 2); got != spot(2, 2, 2) {
		t.Error(got)
	}
	if got := token.At("\n→", 3); got != spot(2, 2, 3) {
		t.Error(got)
	}
}

// TestAtIllFormed is P2.1: a byte that begins no well formed rune is one of its own.
func TestAtIllFormed(t *testing.T) {
	for _, c := range []struct {
		s   string
		col int // of the end
	}{
		{"\xff", 2}, {"\x80", 2}, {"\x80\xbf\x80", 4},
		{"\xe2", 2}, {"\xe2\x8a", 3}, {"\xe2\x8ap", 4}, {"\xe2p", 3}, {"\xe2\xe2\x8a\xa4", 3},
		{"\xc0\x80", 3},          // overlong
		{"\xe0\x80\x80", 4},      // overlong
		{"\xc1\xbf", 3},          // overlong
		{"\xed\xa0\x80", 4},      // half of a pair
		{"\xf4\x90\x80\x80", 5},  // past the last rune
		{"\xf5\x80\x80\x80", 5},  // past the last rune
		{"\xf0\x9f\x98", 4},      // cut off
		{"\xf0\x9f\x98\x80p", 3}, // whole
		{"\xef\xbf\xbd", 2},      // the rune that stands for what is none, itself well formed
		{"\x00", 2},
	} {
		if got := token.At(c.s, len(c.s)); got != spot(1, c.col, len(c.s)) {
			t.Errorf("end of %q: %v", c.s, got)
		}
		s := "p\n" + c.s + "q"
		if got := token.At(s, len(s)-1); got != spot(2, c.col, len(s)-1) {
			t.Errorf("q of %q: %v", s, got)
		}
	}
	if got := token.At("\xe2\x8a\n", 3); got != spot(2, 1, 3) {
		t.Error(got)
	}
}

// plainAt says P2.1 in its own words, byte by byte.
func plainAt(s string, off int) api.Spot {
	off = min(max(off, 0), len(s))
	line, behind := 1, 0
	for i := 0; i < off; i++ {
		if s[i] == 10 {
			line++
			behind = i + 1
		}
	}
	col := 1
	for i := 0; i < len(s); {
		if i >= behind && i < off {
			col++
		}
		_, size := utf8.DecodeRuneInString(s[i:])
		i += size
	}
	return spot(line, col, off)
}

// TestAtAllShortTexts holds At against the words of P2.1 in every text of up to five of these bytes.
func TestAtAllShortTexts(t *testing.T) {
	var walk func(s string, left int)
	walk = func(s string, left int) {
		for off := -1; off <= len(s)+1; off++ {
			if got, want := token.At(s, off), plainAt(s, off); got != want {
				t.Fatalf("At(%q, %d): %v, not %v", s, off, got, want)
			}
		}
		if left == 0 {
			return
		}
		for _, c := range []byte{'p', 10, 13, 0xc2, 0xe2, 0x8a, 0xa4, 0xf0, 0xff} {
			walk(s+string([]byte{c}), left-1)
		}
	}
	walk("", 5)
}
