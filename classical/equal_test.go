package classical_test

import (
	"testing"

	"dictum/api"
)

// TestEqualKnown: P22.1, formulas that are known to have the same values, and those that have not.
func TestEqualKnown(t *testing.T) {
	for _, c := range []struct {
		a, b string
		want bool
	}{
		{"p", "p", true},
		{"p", "q", false},
		{"p", "~p", false},
		{"~~p", "p", true},
		{"~(p & q)", "~p | ~q", true},
		{"p -> q", "~p | q", true},
		{"p -> q", "q -> p", false},
		{"p -> q", "~q -> ~p", true},
		{"((p -> q) -> p) -> p", "true", true},
		{"p | ~p", "q -> q", true},
		{"p & ~p", "false", true},
		{"p & ~p", "q & ~q", true},
		{"p & ~p", "q | ~q", false},
		{"true", "false", false},
		{"p", "p & (q | ~q)", true},
		{"p", "p & q", false},
		{"p", "p | q & ~q", true},
		{"p & (q -> q)", "p & (r -> r)", true},
		{"q & (p -> p)", "p & (q -> q)", false},
		{"r", "p & q", false},
		{"p & q & r", "r & (q & p)", true},
		{"p | q", "q | r", false},
		{"p & a", "a & p & (z | ~z)", true},
		{"(p <-> q) <-> r", "p <-> (q <-> r)", true},
	} {
		x, ids := readAll(t, c.a, c.b)
		for _, l := range [][]int{{0, 1}, {1, 0}} {
			if is, e := heldEqual(t, x, ids[l[0]], ids[l[1]]); is != c.want || e != api.OK {
				t.Error(c, is, e)
			}
		}
	}
}

// TestEqualChance: P22.1, formulas by chance, of which each two are asked.
func TestEqualChance(t *testing.T) {
	chance := newChance(2)
	equal, atoms := 0, 0
	for range 120 {
		x := made(t, someRows(chance, 2+chance.IntN(16), 1+chance.IntN(16), 1+chance.IntN(5))...)
		rows := x.Rows()
		for a := range rows {
			for b := range rows {
				is, e := heldEqual(t, x, a, b)
				if e != api.OK {
					t.Fatal(e)
				}
				if is && a != b {
					equal++
				}
				if is && len(plainNames(rows, a)) != len(plainNames(rows, b)) {
					atoms++
				}
			}
		}
	}
	if equal < 500 || atoms < 100 {
		t.Error(equal, atoms)
	}
}
