package logics_test

import (
	"slices"
	"testing"

	"dictum/api"
	"dictum/formula"
	"dictum/logics"
)

// TestValueKnown: P24.3, by hand.
func TestValueKnown(t *testing.T) {
	for _, c := range []struct {
		text, by string
		n, want  int
	}{
		{"p", "p 2", 3, 2},
		{"p", "p 0", 1, 0},
		{"p", "p 1", 1, 1},
		{"false", "", 1, 0},
		{"false", "p 2", 3, 0},
		{"true", "", 1, 1},
		{"true", "", 64, 64},
		{"p & q", "p 2 q 1", 3, 1},
		{"p & q", "p 1 q 2", 3, 1},
		{"p & q", "p 2 q 2", 3, 2},
		{"p | q", "p 2 q 1", 3, 2},
		{"p | q", "p 1 q 2", 3, 2},
		{"p | q", "p 0 q 0", 3, 0},
		{"p -> q", "p 2 q 1", 3, 1},
		{"p -> q", "p 1 q 2", 3, 3},
		{"p -> q", "p 2 q 2", 3, 3},
		{"p -> q", "p 3 q 0", 3, 0},
		{"p -> q", "p 0 q 0", 3, 3},
		{"p -> q", "p 64 q 63", 64, 63},
		{"~p", "p 0", 5, 5},
		{"~p", "p 1", 5, 0},
		{"~p", "p 5", 5, 0},
		{"~~p", "p 0", 5, 0},
		{"~~p", "p 1", 5, 5},
		{"p | ~p", "p 1", 5, 1},
		{"p | ~p", "p 4", 5, 4},
		{"~~p -> p", "p 2", 5, 2},
		{"~p | ~~p", "p 2", 5, 5},
		{"(p -> q) | (q -> p)", "p 2 q 4", 5, 5},
		{"((p -> q) -> p) -> p", "q 1 p 2", 3, 2},
		{"((p -> q) -> p) -> p", "q 2 p 1", 3, 3},
		{"(p -> q) -> r", "p 3 q 2 r 1", 4, 1},
		{"(p -> q) -> r", "p 3 q 1 r 2", 4, 4},
		{"p & q -> r | P", "p 3 q 4 r 1 P 2", 4, 2},
		{"p", "q 1 p 2 r 0 P 3", 3, 2},
	} {
		x := formula.New()
		id := read(t, x, c.text)
		untouched(t, x, func() {
			if v, e := logics.Value(x, id, c.n, hyps(c.by)); v != c.want || e != api.OK {
				t.Errorf("Value(%s, %d, %s): %d, error %d, not %d", c.text, c.n, c.by, v, e, c.want)
			}
		})
	}
}

// TestValueAtoms: P24.3, the atoms of the formula alone must have a value, not those of the table.
func TestValueAtoms(t *testing.T) {
	x := made(t, atom("p"), atom("q"), imp(0, 0), imp(0, 1))
	for id, want := range []api.Errno{api.OK, api.ErrArg, api.OK, api.ErrArg} {
		if _, e := logics.Value(x, id, 2, hyps("p 1")); e != want {
			t.Errorf("%d: error %d, not %d", id, e, want)
		}
	}
}

// TestDummettKnown: P24.4, formulas with the truth values that refute them first, by hand.
func TestDummettKnown(t *testing.T) {
	for _, c := range []struct{ text, by string }{
		{"p", "p 0"},
		{"~p", "p 1"},
		{"~~p", "p 0"},
		{"p | ~p", "p 1"},
		{"~~p -> p", "p 1"},
		{"p -> q", "p 1 q 0"},
		{"q -> p", "p 0 q 1"},
		{"p & q", "p 0 q 0"},
		{"p | q", "p 0 q 0"},
		{"~(p & q)", "p 1 q 1"},
		{"(p -> q) | p", "p 1 q 0"},
		{"(q -> p) | q", "p 0 q 1"},
		{"((p -> q) -> p) -> p", "p 1 q 0"},
		{"((q -> p) -> q) -> q", "p 0 q 1"},
		{"(~q -> p) -> ((p -> q) -> p) -> p", "p 2 q 1"},
		{"p2 | (p2 -> p1 | ~p1)", "p1 1 p2 2"},
		{"p1 | (p1 -> p2 | ~p2)", "p1 2 p2 1"},
		{"p3 | (p3 -> p2 | (p2 -> p1 | ~p1))", "p1 1 p2 2 p3 3"},
		{"p | (p -> q) | (q -> r) | ~r", "p 3 q 2 r 1"}, // 3 is one below true
		{"a | (a -> b) | (b -> c) | (c -> d) | (d -> e) | ~e", "a 5 b 4 c 3 d 2 e 1"},
		{"(a -> b) | (b -> c) | (c -> d) | (d -> e)", "a 4 b 3 c 2 d 1 e 0"},
		{"(e -> d) | (d -> c) | (c -> b) | (b -> a)", "a 0 b 1 c 2 d 3 e 4"},
		{"(p -> q) -> (q -> p)", "p 0 q 1"},
		{"P | p | p' | p0 | q", "P 0 p 0 p' 0 p0 0 q 0"},
		{"q | (p0 | ~p0) & (p' -> p) & ~P", "P 0 p 0 p' 0 p0 1 q 0"},
		{"~(P & p & p' & p0 & q)", "P 1 p 1 p' 1 p0 1 q 1"},
		{"false", ""},
		{"~true", ""},
		{"true -> false & true", ""},
	} {
		x := formula.New()
		id := read(t, x, c.text)
		untouched(t, x, func() {
			if is, by, e := logics.Dummett(x, id); is || !slices.Equal(by, hyps(c.by)) || e != api.OK {
				t.Errorf("Dummett(%s): %v, %v, error %d, not %s", c.text, is, by, e, c.by)
			}
		})
	}
}

// TestDummettTrue: P24.4, formulas that are true in Dummett's logic, by hand, of up to five atoms.
func TestDummettTrue(t *testing.T) {
	for _, text := range []string{
		"true",
		"false -> false & true",
		"p -> p",
		"~p | ~~p",
		"(p -> q) | (q -> p)",
		"p -> p | q",
		"~(p & q) <-> ~p | ~q",
		"(p -> q | r) <-> (p -> q) | (p -> r)",
		"(p & q -> r) <-> (p -> r) | (q -> r)",
		"((p -> q) -> q) & ((q -> p) -> p) -> p | q",
		"(~p -> q | r) -> (~p -> q) | (~p -> r)",
		"((~~p -> p) -> p | ~p) -> ~p | ~~p",
		"(a -> b) | (b -> c) | (c -> d) | (d -> e) | (e -> a)",
		"a | (a -> b) | (b -> c) | (c -> d) | (d -> a)",
		"(a -> b) & (b -> c) & (c -> d) & (d -> e) -> (a -> e)",
	} {
		x := formula.New()
		id := read(t, x, text)
		untouched(t, x, func() {
			if is, by, e := logics.Dummett(x, id); !is || len(by) != 0 || e != api.OK {
				t.Errorf("Dummett(%s): %v, %v, error %d", text, is, by, e)
			}
		})
	}
}

// TestDummettNames: P24.4, the atoms go by bytes, in whichever order they stand in the table.
func TestDummettNames(t *testing.T) {
	chance := newChance(10)
	names := byBytes()
	for range 100 {
		x := formula.New()
		id, _ := x.Bot()
		for _, i := range chance.Perm(5) {
			a, _ := x.Atom(names[i])
			if i == 0 {
				a, _ = x.Not(a) // so that P is not false in the first row
			}
			id, _ = x.Or(id, a)
		}
		if is, by, e := logics.Dummett(x, id); is || !slices.Equal(by, hyps("P 1 p 0 p' 0 p0 0 q 0")) || e != api.OK {
			t.Fatal(is, by, e, x.Rows())
		}
	}
}

// TestModelKnown: P24.5, by hand.
func TestModelKnown(t *testing.T) {
	for _, c := range []struct {
		n    int
		by   string
		want api.Model
	}{
		{1, "", up(nil)},
		{1, "p 0", up(nil)},
		{1, "p 1", with(up(nil), "p")},
		{2, "", line(2)},
		{2, "p 0", line(2)},
		{2, "p 1", with(line(2), "", "p")},
		{2, "p 2", with(line(2), "p", "p")},
		{3, "p 1 q 2 r 3", with(line(3), "r", "q,r", "p,q,r")},
		{3, "r 3 q 2 p 1", with(line(3), "r", "q,r", "p,q,r")},
		{3, "r 1 p 3 q 0", with(line(3), "p", "p", "p,r")},
		{3, "q 2 p0 2 p' 2 p 2 P 2", with(line(3), "", "P,p,p',p0,q", "P,p,p',p0,q")},
		{4, "abcdefghijklmnopqrstuvwxyz12345 1", with(line(4), "", "", "", "abcdefghijklmnopqrstuvwxyz12345")}, // 31 bytes
		{4, "q 4 p 1", with(line(4), "q", "q", "q", "p,q")},
	} {
		if m, e := logics.Model(c.n, hyps(c.by)); !alike(m, c.want) || e != api.OK {
			t.Errorf("Model(%d, %s): %s, error %d, not %s", c.n, c.by, show(m), e, show(c.want))
		}
	}
}
