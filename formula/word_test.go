package formula_test

import (
	"regexp"
	"slices"
	"strings"
	"testing"

	"dictum/formula"
)

var (
	nameForm = regexp.MustCompile(`^[A-Za-z][A-Za-z0-9_']{0,30}$`)
	taken    = []string{"abort", "case", "false", "fst", "fun", "in", "inl", "inr", "let", "of", "snd", "true"}
)

// plainWord says P3.1 by a regular expression. (Its $ stands at the end of the text alone, since no flag says otherwise.)
func plainWord(s string) bool {
	return nameForm.MatchString(s) && !slices.Contains(taken, s)
}

// TestWordNames: P3.1, what is a name.
func TestWordNames(t *testing.T) {
	for _, s := range []string{
		"p", "a", "z", "A", "Z", "p0", "p9", "p_", "p'", "x'1_", "P_'", "p''", "p__",
		strings.Repeat("p", 30), strings.Repeat("p", 31), "p" + strings.Repeat("'", 30),
	} {
		if !formula.Word(s) {
			t.Errorf("%q is no name", s)
		}
	}
}

// TestWordNoNames: P3.1, what is none.
func TestWordNoNames(t *testing.T) {
	for _, s := range []string{
		"", strings.Repeat("p", 32), strings.Repeat("p", 33), strings.Repeat("p", 1000),
		"0", "9", "1p", "_", "_p", "'", "'p", " p", "p ", "p q", "p-q", "p\n", "p\x00", "\x00", "-", "@", "[", "`", "{",
		"p/", "p:", "p@", "p[", "p^", "p`", "p{", "p&", "p(", "é", "pé", "⊤", "⊥", "p\xff", "\xc3",
	} {
		if formula.Word(s) {
			t.Errorf("%q is a name", s)
		}
	}
}

// TestWordTaken: P3.1, the twelve words are no names, but what is only like them is one.
func TestWordTaken(t *testing.T) {
	if len(taken) != 12 {
		t.Fatal(len(taken))
	}
	for _, s := range taken {
		if formula.Word(s) {
			t.Errorf("%q is a name", s)
		}
		for _, near := range []string{s + "1", s + "'", s + "_", "x" + s, strings.ToUpper(s), strings.ToUpper(s[:1]) + s[1:], s[:1]} {
			if !formula.Word(near) {
				t.Errorf("%q is no name", near)
			}
		}
	}
}

// TestWordEachByte: P3.1, each byte in the first place, in the second one and in the last one.
func TestWordEachByte(t *testing.T) {
	for b := range 256 {
		c := string([]byte{byte(b)})
		for _, s := range []string{c, c + "p", "p" + c, "p" + c + "q", strings.Repeat("p", 30) + c, strings.Repeat("p", 31) + c} {
			if formula.Word(s) != plainWord(s) {
				t.Errorf("%q: %v", s, formula.Word(s))
			}
		}
	}
}

// TestWordAllShort: P3.1 in every text of up to three bytes of these.
func TestWordAllShort(t *testing.T) {
	const letters = "afilnorsZ09_'- \n\x80"
	var walk func(s string)
	walk = func(s string) {
		if formula.Word(s) != plainWord(s) {
			t.Errorf("%q: %v", s, formula.Word(s))
		}
		if len(s) < 3 {
			for i := range len(letters) {
				walk(s + letters[i:i+1])
			}
		}
	}
	walk("")
}
