package syntax_test

import (
	"strings"
	"testing"

	"dictum/syntax"
)

// TestCount is P4.1.
func TestCount(t *testing.T) {
	for s, want := range map[string]int{
		"":                                 0,
		" \n# p -> q":                      0,
		"p":                                1,
		"~p":                               2,
		"p -> q & p":                       5,
		"¬p ∨ ⊥ → ⊤ ↔ q ∧ r":               10,
		"((p))":                            1,
		"true false":                       2,
		"let case _ _1 p'":                 5,
		"~ & | -> <->":                     5,
		"|- <= => ( ) [ ] { } , . : ; = /": 0,
		"1 2 0 999999999":                  0,
		"p, q |- r":                        3,
		"p $ q r":                          1,
		"$ p":                              0,
		"p & 007 & q":                      2,
		"p\nq\n<\nr":                       2,
		"p |-> q":                          1,
		"p - > q":                          1,
		"p q \xff r":                       2,
		"p # \xff\nq 1a":                   2,
		"p # \xe2\x8a\n~⊤\xe2\x8a":         3,
		strings.Repeat("x", 31) + " p":     2,
		strings.Repeat("x", 32) + " p":     0,
		"p " + strings.Repeat("x", 32):     1,
		strings.Repeat("p ", 512):          512,
		strings.Repeat("p ", 513):          513,
		strings.Repeat("(", 5000):          0,
		strings.Repeat("~", 1<<20):         1 << 20,
	} {
		if n := syntax.Count(s); n != want {
			t.Errorf("Count(%.40q): %d, not %d", s, n, want)
		}
	}
}
