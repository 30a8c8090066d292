package hilbert_test

import (
	"testing"

	"dictum/api"
	"dictum/formula"
	"dictum/hilbert"
)

// isJust asks that a formula is the scheme of these kinds, and of no others.
func isJust(t *testing.T, f *formula.Table, text string, want ...api.LineKind) {
	t.Helper()
	id := read(t, f, text)
	untouched(t, f, func() {
		for _, k := range append(axiomKinds(), noAxioms()...) {
			yes := false
			for _, w := range want {
				yes = yes || w == k
			}
			if is, e := hilbert.Is(f, k, id); is != yes || e != api.OK {
				t.Errorf("Is(%d, %s): %v, error %d", k, text, is, e)
			}
		}
	})
}

// TestIsEach: P16.1, each scheme, of atoms, of the same atom in all places, of other formulas.
func TestIsEach(t *testing.T) {
	f := formula.New()
	isJust(t, f, "p -> (q -> p)", api.LineK)
	isJust(t, f, "p -> (p -> p)", api.LineK)
	isJust(t, f, "(p -> q) -> (~r -> (p -> q))", api.LineK)
	isJust(t, f, "false -> (q -> false)", api.LineK, api.LineBot)
	isJust(t, f, "(p -> (q -> r)) -> ((p -> q) -> (p -> r))", api.LineS)
	isJust(t, f, "(p -> (p -> p)) -> ((p -> p) -> (p -> p))", api.LineS)
	isJust(t, f, "(p & q -> (~p -> q | r)) -> ((p & q -> ~p) -> (p & q -> q | r))", api.LineS)
	isJust(t, f, "p & q -> p", api.LineFst)
	isJust(t, f, "p & q -> q", api.LineSnd)
	isJust(t, f, "p & p -> p", api.LineFst, api.LineSnd)
	isJust(t, f, "(p -> q) & r -> (p -> q)", api.LineFst)
	isJust(t, f, "p -> (q -> p & q)", api.LinePair)
	isJust(t, f, "p -> (p -> p & p)", api.LinePair)
	isJust(t, f, "p | q -> (~p -> (p | q) & ~p)", api.LinePair)
	isJust(t, f, "p -> p | q", api.LineInl)
	isJust(t, f, "q -> p | q", api.LineInr)
	isJust(t, f, "p -> p | p", api.LineInl, api.LineInr)
	isJust(t, f, "false -> false | q", api.LineInl, api.LineBot)
	isJust(t, f, "(p -> r) -> ((q -> r) -> (p | q -> r))", api.LineCase)
	isJust(t, f, "(p -> p) -> ((p -> p) -> (p | p -> p))", api.LineCase)
	isJust(t, f, "(~p -> q & r) -> ((s -> q & r) -> (~p | s -> q & r))", api.LineCase)
	isJust(t, f, "false -> p", api.LineBot)
	isJust(t, f, "false -> false", api.LineBot)
	isJust(t, f, "false -> (p -> q)", api.LineBot)
}

// TestIsNone: P16.1, what only looks like a scheme.
func TestIsNone(t *testing.T) {
	f := formula.New()
	for _, text := range []string{
		"p", "false", "p & q", "p | q", "p -> p", "~p", "p -> q",
		"p -> (q -> q)", "p -> (q & p)", "p -> (q | r)", "p & (q -> p)", "p | (q -> p)",
		"(p -> (q -> r)) -> ((p -> q) -> (p -> q))", "(p -> (q -> r)) -> ((p -> q) -> (q -> r))", "(p -> (q -> r)) -> ((p -> r) -> (p -> r))",
		"(p -> (q -> r)) -> ((s -> q) -> (p -> r))", "(p -> (q & r)) -> ((p -> q) -> (p -> r))", "(p & (q -> r)) -> ((p -> q) -> (p -> r))",
		"(p -> (q -> r)) -> ((p & q) -> (p -> r))", "(p -> (q -> r)) -> ((p -> q) & (p -> r))", "(p -> (q -> r)) & ((p -> q) -> (p -> r))", "(p -> (q -> r)) -> ((p -> q) -> (p | r))",
		"p & q -> r", "p | q -> p", "p | q -> q", "p & (q -> p)", "(p -> q) -> p",
		"p -> (q -> q & p)", "p -> (q -> p | q)", "p -> (q -> p & r)", "p -> (q -> r & q)", "p -> (q & (p & q))",
		"p -> q | r", "p -> p & q", "q -> p & q", "p & (p | q)",
		"(p -> r) -> ((q -> r) -> (q | p -> r))", "(p -> r) -> ((q -> r) -> (p & q -> r))", "(p -> r) -> ((q -> s) -> (p | q -> r))",
		"(p -> s) -> ((q -> r) -> (p | q -> r))", "(p -> r) -> ((q -> r) -> (p | q -> s))", "(p -> r) -> ((q -> r) -> (s | q -> r))", "(p -> r) -> ((q -> r) -> (p | s -> r))",
		"(p & r) -> ((q -> r) -> (p | q -> r))", "(p -> r) -> ((q & r) -> (p | q -> r))", "(p -> r) -> ((q -> r) & (p | q -> r))", "(p -> r) & ((q -> r) -> (p | q -> r))",
		"false & p", "false | p", "p -> false", "~p -> p", "~false & p",
	} {
		isJust(t, f, text)
	}
}

// TestIsChance: P16.1, every kind and every row of tables by chance, with axioms and what is like them among the rows.
func TestIsChance(t *testing.T) {
	chance := newChance(1)
	many := map[api.LineKind]int{}
	for range 400 {
		p := newPlain(t, someRows(chance, 3+chance.IntN(10), 3))
		for range 12 {
			k := axiomKinds()[chance.IntN(9)]
			id := p.made(schemes()[k], stand{"A": chance.IntN(len(p.rows)), "B": chance.IntN(len(p.rows)), "C": chance.IntN(len(p.rows))})
			if chance.IntN(2) == 0 {
				p.turn(chance.IntN, id)
			}
		}
		f := made(t, p.rows...)
		for id := range p.rows {
			for k := api.LineKind(-1); k < 14; k++ {
				want := plainIs(p.rows, k, id)
				if is, e := hilbert.Is(f, k, id); is != want || e != api.OK {
					t.Fatalf("Is(%d, %d) of %v: %v, error %d", k, id, p.rows, is, e)
				}
				if want {
					many[k]++
				}
			}
		}
	}
	for _, k := range axiomKinds() {
		if many[k] < 300 {
			t.Errorf("%d axioms of kind %d", many[k], k)
		}
	}
}

// turn makes a formula that is like another one but for a part.
func (p *plain) turn(chance func(int) int, id int) int {
	n := p.rows[id]
	if n.Kind == api.KAtom || n.Kind == api.KBot || chance(4) == 0 {
		return chance(len(p.rows))
	}
	switch chance(5) {
	case 0:
		n.Kind = api.KAnd + api.Kind(chance(3))
	case 1, 2:
		n.L = p.turn(chance, n.L)
	default:
		n.R = p.turn(chance, n.R)
	}
	return p.put(n)
}

// TestIsFull: P16.1, of a full table, also its last row, and none is asked for that it does not have.
func TestIsFull(t *testing.T) {
	f := filled(t, rowsOf(t, "p", "q", "p & q").Rows(), api.MaxForms-1)
	id, e := f.Imp(2, 1)
	if id != api.MaxForms-1 || e != api.OK {
		t.Fatal(id, e)
	}
	isJust(t, f, "p & q -> q", api.LineSnd)
	isJust(t, f, "fill0")
	for _, id := range append(noForms(), f.Len()) {
		isNot(t, f, id, api.ErrForm)
	}
}

// isNot asks for that error of Is, of every kind.
func isNot(t *testing.T, f *formula.Table, id int, want api.Errno) {
	t.Helper()
	untouched(t, f, func() {
		for _, k := range append(axiomKinds(), noAxioms()...) {
			if is, e := hilbert.Is(f, k, id); is || e != want {
				t.Errorf("Is(%d, %d): %v, error %d, not %d", k, id, is, e, want)
			}
		}
	})
}

// TestIsRefused: P16.1 and R1, of a table that no call made ErrNil, of no formula ErrForm, whatever the kind.
func TestIsRefused(t *testing.T) {
	for _, f := range noMade() {
		for _, id := range append(noForms(), 0, 1) {
			isNot(t, f, id, api.ErrNil)
		}
	}
	for _, id := range append(noForms(), 0, 1) {
		isNot(t, formula.New(), id, api.ErrForm)
	}
	f := rowsOf(t, "p", "p -> p", "p -> (p -> p)")
	isNot(t, f, 3, api.ErrForm)
	f.Cut(2)
	isNot(t, f, 2, api.ErrForm)
}
