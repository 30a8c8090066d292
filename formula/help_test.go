package formula_test

import (
	"slices"
	"strconv"
	"testing"

	"dictum/api"
	"dictum/formula"
)

func atom(name string) api.Node { return api.Node{Kind: api.KAtom, Name: name} }

func bot() api.Node { return api.Node{Kind: api.KBot} }

func join(k api.Kind, l, r int) api.Node { return api.Node{Kind: k, L: l, R: r} }

// sample has a row of each kind: p, q, p & q, false, (p & q) | p, ((p & q) | p) -> false.
func sample() []api.Node {
	return []api.Node{atom("p"), atom("q"), join(api.KAnd, 0, 1), bot(), join(api.KOr, 2, 0), join(api.KImp, 4, 3)}
}

// made is the table of rows that are one.
func made(t *testing.T, rows []api.Node) *formula.Table {
	t.Helper()
	f, e := formula.From(rows)
	if f == nil || e != api.OK {
		t.Fatalf("From(%v): error %d", rows, e)
	}
	return f
}

// atoms are rows of n atoms, a0, a1 and so on.
func atoms(n int) []api.Node {
	var out []api.Node
	for i := range n {
		out = append(out, atom("a"+strconv.Itoa(i)))
	}
	return out
}

// holds holds all that a table tells against the rows that it should have.
func holds(t *testing.T, f *formula.Table, rows []api.Node) {
	t.Helper()
	if f.Len() != len(rows) {
		t.Errorf("%d rows, not %d", f.Len(), len(rows))
	}
	if l := f.Rows(); !slices.Equal(l, rows) {
		t.Errorf("rows %v, not %v", l, rows)
	}
	for i, n := range rows {
		if got, ok := f.Node(i); got != n || !ok {
			t.Errorf("Node(%d): %v, %v, not %v", i, got, ok, n)
		}
		if id, ok := f.Find(n); id != i || !ok {
			t.Errorf("Find(%v): %d, %v, not %d", n, id, ok, i)
		}
	}
	for _, i := range []int{-1, len(rows)} {
		if got, ok := f.Node(i); got != (api.Node{}) || ok {
			t.Errorf("Node(%d): %v, %v", i, got, ok)
		}
	}
}

// answers holds a number and an error against what they should be.
func answers(t *testing.T, what string, id int, e api.Errno, wantID int, want api.Errno) {
	t.Helper()
	if id != wantID || e != want {
		t.Errorf("%s: %d, error %d, not %d, error %d", what, id, e, wantID, want)
	}
}
