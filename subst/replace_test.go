package subst_test

import (
	"testing"

	"dictum/api"
	"dictum/formula"
	"dictum/subst"
)

// TestReplace: P7.3, parts of each kind, in each place.
func TestReplace(t *testing.T) {
	replaces(t, "p & q", "p & q", "r", "r")
	replaces(t, "p & q", "p", "r", "r & q")
	replaces(t, "p & q", "q", "r", "p & r")
	replaces(t, "p & q | p & q", "p & q", "r", "r | r")
	replaces(t, "p & q -> ~(p & q)", "p & q", "p", "p -> ~p")
	replaces(t, "~p", "false", "q", "p -> q")
	replaces(t, "true", "false", "p", "p -> p")
	replaces(t, "true", "true", "p", "p")
	replaces(t, "false", "false", "p -> false", "p -> false")
	replaces(t, "p", "p", "false", "false")
	replaces(t, "p | q", "q | p", "r", "p | q")
	replaces(t, "p & q & r", "q & r", "s", "p & q & r")
	replaces(t, "p & (q & r)", "q & r", "s", "p & s")
}

// TestReplaceNotThere: P7.3, a formula that does not stand there, and one by itself, change nothing.
func TestReplaceNotThere(t *testing.T) {
	f := formula.New()
	id, part, other := read(t, f, "p & q -> p | q"), read(t, f, "p & q"), read(t, f, "p & q -> q")
	rows := f.Rows()
	for _, x := range [][3]int{{id, other, 0}, {id, other, id}, {id, part, part}, {id, id, id}, {id, 0, 0}, {0, id, part}, {0, 1, 2}, {part, id, other}} {
		got, e := subst.Replace(f, x[0], x[1], x[2])
		answers(t, "Replace", got, e, x[0], api.OK)
		same(t, f, rows)
	}
}

// TestReplaceWithin: P7.3, what stands in by is not looked at, and a part that is made of old is one no more behind it.
func TestReplaceWithin(t *testing.T) {
	replaces(t, "p | q", "p", "p & p", "p & p | q")
	replaces(t, "~p -> q", "~p", "~~p", "~~p -> q")
	replaces(t, "~p -> ~~p", "~p", "p", "p -> ~p")
	replaces(t, "~~~p", "~p", "p", "~~p")
	replaces(t, "~~p & ~p", "~p", "~~p", "~~~p & ~~p")
	replaces(t, "(p & q) & (p & q -> p)", "p", "p & q", "((p & q) & q) & ((p & q) & q -> p & q)")
}

// TestReplaceBecomesOld: P7.3, what becomes old only by being made anew is not replaced.
func TestReplaceBecomesOld(t *testing.T) {
	f := formula.New()
	old := read(t, f, "q & r")
	id, q := read(t, f, "(p & r) | p"), read(t, f, "q")
	first, e := subst.Replace(f, id, read(t, f, "p"), q)
	answers(t, "Replace", first, e, read(t, f, "q & r | q"), api.OK)
	both, e := subst.Replace(f, first, old, q)
	answers(t, "Replace", both, e, read(t, f, "q | q"), api.OK)
}

// TestReplaceRows: P7.1 and R9, the order of the rows.
func TestReplaceRows(t *testing.T) {
	rows := []api.Node{atom("p"), atom("q"), join(api.KOr, 0, 1), join(api.KAnd, 2, 0), join(api.KImp, 3, 2)}
	f := made(t, rows)
	id, e := subst.Replace(f, 4, 2, 1)
	answers(t, "Replace", id, e, 6, api.OK)
	same(t, f, append(rows, join(api.KAnd, 1, 0), join(api.KImp, 5, 1)))
}
