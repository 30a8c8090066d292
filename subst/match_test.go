package subst_test

import (
	"testing"

	"dictum/api"
	"dictum/formula"
	"dictum/subst"
)

// TestMatch: P7.4, patterns that become formulas.
func TestMatch(t *testing.T) {
	matches(t, "p", "p", "p by p")
	matches(t, "p", "q", "p by q")
	matches(t, "p", "false", "p by false")
	matches(t, "p", "q & r -> p", "p by q & r -> p")
	matches(t, "false", "false")
	matches(t, "true", "true")
	matches(t, "true & false", "true & false")
	matches(t, "p & q", "q & p", "p by q", "q by p")
	matches(t, "p | q", "p | p", "p by p", "q by p")
	matches(t, "~p", "~~q", "p by ~q")
	matches(t, "p -> q", "~r", "p by r", "q by false")
	matches(t, "p -> q", "true", "p by false", "q by false")
	matches(t, "(p -> q) -> p", "(~r -> p & p) -> ~r", "p by ~r", "q by p & p")
	matches(t, "p & (q & p)", "(q | r) & (p & (q | r))", "p by q | r", "q by p")
}

// TestMatchNot: P7.4, patterns that do not.
func TestMatchNot(t *testing.T) {
	matchesNot(t, "false", "p")
	matchesNot(t, "false", "true")
	matchesNot(t, "~p", "p -> q")
	matchesNot(t, "~p", "p")
	matchesNot(t, "p & q", "p | q")
	matchesNot(t, "p & q", "p -> q")
	matchesNot(t, "p | q", "p & q")
	matchesNot(t, "p | q", "p")
	matchesNot(t, "p -> q", "false")
	matchesNot(t, "p -> p", "q -> r")
	matchesNot(t, "p -> p", "q -> ~q")
	matchesNot(t, "p -> p", "(q & r) -> (r & q)")
	matchesNot(t, "p & (q & p)", "p & (q & r)")
	matchesNot(t, "(p -> q) & (p -> q)", "(p -> q) & (p -> r)")
	matchesNot(t, "(p -> q) & (q -> p)", "(p -> q) & (r -> p)")
	matchesNot(t, "p & (p -> q)", "(p -> q) & (q -> r)")
	matchesNot(t, "(p & p) | p", "(q & q) | (q & q)")
	matchesNot(t, "true", "p -> p")
	matchesNot(t, "(p & p) | q", "(r & s) | s")
	matchesNot(t, "(p & p) | q", "(r | r) | s")
}

// TestMatchNames: P7.4, the names rise as bytes, wherever the atoms stand and whatever numbers they have.
func TestMatchNames(t *testing.T) {
	matches(t, "b & (a & (c & B))", "p & (q & (r & s))", "B by s", "a by q", "b by p", "c by r")
	matches(t, "p10 | p2 | p' | p_ | p | pA | pa", "p1 | p2 | p3 | p4 | p5 | p6 | p7", "p by p5", "p' by p3", "p10 by p1", "p2 by p2", "pA by p6", "p_ by p4", "pa by p7")
	matches(t, "z -> y -> x -> y", "x -> y -> z -> y", "x by z", "y by y", "z by x")
	f := made(t, []api.Node{atom("q"), atom("p"), join(api.KAnd, 0, 1), join(api.KAnd, 1, 0)})
	for _, x := range [][4]int{{2, 2, 1, 0}, {2, 3, 0, 1}, {3, 3, 1, 0}, {3, 2, 0, 1}} {
		l, ok, e := subst.Match(f, x[0], x[1])
		if len(l) != 2 || l[0] != (api.Hyp{Name: "p", Form: x[2]}) || l[1] != (api.Hyp{Name: "q", Form: x[3]}) || !ok || e != api.OK {
			t.Errorf("Match(%d, %d): %v, %v, error %d", x[0], x[1], l, ok, e)
		}
	}
}

// TestMatchDeep: P7.4, a pattern of which the last row decides, behind hundreds.
func TestMatchDeep(t *testing.T) {
	chain := func(f *formula.Table, from int, names ...string) int {
		for i := range 400 {
			n, _ := f.Atom(names[i%len(names)])
			from, _ = f.Imp(n, from)
		}
		return from
	}
	f := formula.New()
	p, _ := f.Atom("p")
	q, _ := f.Atom("q")
	pattern, fits, not := chain(f, p, "p"), chain(f, q, "q"), chain(f, p, "q")
	if l, ok, e := subst.Match(f, pattern, fits); len(l) != 1 || l[0] != (api.Hyp{Name: "p", Form: q}) || !ok || e != api.OK {
		t.Errorf("%v, %v, error %d", l, ok, e)
	}
	if l, ok, e := subst.Match(f, pattern, not); len(l) != 0 || ok || e != api.OK {
		t.Errorf("%v, %v, error %d", l, ok, e)
	}
}

// TestMatchOwn: R3, what is answered is the caller's own.
func TestMatchOwn(t *testing.T) {
	f := made(t, []api.Node{atom("p"), atom("q"), join(api.KAnd, 0, 1)})
	one, _, _ := subst.Match(f, 2, 2)
	two, _, _ := subst.Match(f, 2, 2)
	one[0], one[1] = api.Hyp{Name: "z", Form: 7}, api.Hyp{}
	three, _, _ := subst.Match(f, 2, 2)
	for _, l := range [][]api.Hyp{two, three} {
		if len(l) != 2 || l[0] != (api.Hyp{Name: "p"}) || l[1] != (api.Hyp{Name: "q", Form: 1}) {
			t.Errorf("%v", l)
		}
	}
}
