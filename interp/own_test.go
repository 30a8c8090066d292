package interp_test

import (
	"slices"
	"sync"
	"testing"

	"dictum/api"
	"dictum/formula"
	"dictum/interp"
)

// told is what one call has answered, and the rows behind it.
type told struct {
	id   int
	ok   bool
	e    api.Errno
	rows []api.Node
}

func (a told) same(b told) bool {
	return a.id == b.id && a.ok == b.ok && a.e == b.e && slices.Equal(a.rows, b.rows)
}

// tells is what all calls answer of the formulas a and b of a copy of a table each.
func tells(x *formula.Table, a, b int) []told {
	var l []told
	y := x.Copy()
	id, e := interp.Craig(y, a, b)
	l = append(l, told{id, false, e, y.Rows()})
	for _, call := range []string{"Exists", "Forall", "Beth"} {
		y := x.Copy()
		id, ok, e := calls()[call](y, a, "p")
		l = append(l, told{id, ok, e, y.Rows()})
	}
	return l
}

// someTables are tables by chance, with two formulas each.
func someTables(t *testing.T, many int) (l []*formula.Table, pairs [][2]int) {
	t.Helper()
	chance := newChance(10)
	for range many {
		x := formula.New()
		a := put(t, x, someTree(chance, 2+chance.IntN(7), []string{"p", "q", "r"}))
		b := put(t, x, someTree(chance, 2+chance.IntN(7), []string{"q", "r", "s"}))
		if chance.IntN(2) == 0 {
			b, _ = x.Or(b, a)
		}
		l, pairs = append(l, x), append(pairs, [2]int{a, b})
	}
	return l, pairs
}

// TestOwnAgain: R4 and R8, the same call answers the same, whatever was asked in between, and of a table that is a copy, too; the table that was copied does not change.
func TestOwnAgain(t *testing.T) {
	t.Parallel()
	l, pairs := someTables(t, 150)
	var first [][]told
	for i, x := range l {
		untouched(t, x, func() { first = append(first, tells(x, pairs[i][0], pairs[i][1])) })
	}
	for i := len(l) - 1; i >= 0; i-- {
		if again := tells(l[i], pairs[i][0], pairs[i][1]); !slices.EqualFunc(first[i], again, told.same) {
			t.Fatal(show(l[i], pairs[i][0]), show(l[i], pairs[i][1]))
		}
	}
}

// TestOwnSideBySide: R4, calls side by side, each of its own table, answer what they answer alone.
func TestOwnSideBySide(t *testing.T) {
	l, pairs := someTables(t, 60)
	alone, beside := make([][]told, len(l)), make([][]told, len(l))
	for i, x := range l {
		alone[i] = tells(x, pairs[i][0], pairs[i][1])
	}
	var all sync.WaitGroup
	for i, x := range l {
		all.Go(func() { beside[i] = tells(x.Copy(), pairs[i][0], pairs[i][1]) })
	}
	all.Wait()
	for i := range l {
		if !slices.EqualFunc(alone[i], beside[i], told.same) {
			t.Fatal(show(l[i], pairs[i][0]), show(l[i], pairs[i][1]))
		}
	}
}

// TestOwnBehind: the answer is a row, and the table goes on behind it as any table does.
func TestOwnBehind(t *testing.T) {
	l, pairs := someTables(t, 100)
	for i, x := range l {
		for _, of := range calls() {
			y := x.Copy()
			id, _, e := of(y, pairs[i][0], "p")
			if _, ok := y.Node(id); e == api.OK && !ok {
				t.Fatal(show(x, pairs[i][0]), id)
			}
			rows := y.Rows()
			z, e := formula.From(rows)
			if e != api.OK || !slices.Equal(z.Rows(), rows) {
				t.Fatal(show(x, pairs[i][0]), rows)
			}
			if n, e := y.Atom("behind"); n != len(rows) || e != api.OK {
				t.Fatal(n, e)
			}
		}
	}
}
