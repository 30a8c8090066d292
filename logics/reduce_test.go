package logics_test

import (
	"slices"
	"testing"

	"dictum/api"
	"dictum/formula"
	"dictum/logics"
)

// TestReduceRows: P24.6, which rows are put, and in which order: each two are joined as soon as they are put, and the whole stands last.
func TestReduceRows(t *testing.T) {
	for _, c := range []struct {
		rows []api.Node
		id   int
		more []api.Node
		want int
	}{
		{[]api.Node{atom("p")}, 0, nil, 0},
		{[]api.Node{bot()}, 0, nil, 0},
		{[]api.Node{atom("p"), bot()}, 1, nil, 1},
		{[]api.Node{bot(), atom("p")}, 1, nil, 1},
		{[]api.Node{atom("p"), and(0, 0)}, 0, nil, 0},
		// p, p & p: (p -> p & p) | (p & p -> p), one of two formulas
		{[]api.Node{atom("p"), and(0, 0)}, 1, []api.Node{imp(0, 1), imp(1, 0), or(2, 3), imp(4, 1)}, 5},
		// true
		{[]api.Node{bot(), imp(0, 0)}, 1, []api.Node{imp(0, 1), imp(1, 0), or(2, 3), imp(4, 1)}, 5},
		// p & q: the pairs 0 1, 0 2, 1 2
		{[]api.Node{atom("p"), atom("q"), and(0, 1)}, 2, []api.Node{
			imp(0, 1), imp(1, 0), or(3, 4),
			imp(0, 2), imp(2, 0), or(6, 7), and(5, 8),
			imp(1, 2), imp(2, 1), or(10, 11), and(9, 12),
			imp(13, 2),
		}, 14},
		// p -> q is a row already
		{[]api.Node{atom("p"), atom("q"), imp(0, 1)}, 2, []api.Node{
			imp(1, 0), or(2, 3),
			imp(0, 2), imp(2, 0), or(5, 6), and(4, 7),
			imp(1, 2), imp(2, 1), or(9, 10), and(8, 11),
			imp(12, 2),
		}, 13},
		// q -> p, with other rows between: the formula's own are 1, 3, 4
		{[]api.Node{atom("z"), atom("q"), bot(), atom("p"), imp(1, 3), atom("y")}, 4, []api.Node{
			imp(3, 1), or(4, 6),
			imp(1, 4), imp(4, 1), or(8, 9), and(7, 10),
			imp(3, 4), imp(4, 3), or(12, 13), and(11, 14),
			imp(15, 4),
		}, 16},
		// ~p, with a row of some pair there already
		{[]api.Node{bot(), atom("p"), imp(1, 0), imp(2, 1)}, 2, []api.Node{
			imp(0, 1), or(4, 2),
			imp(0, 2), imp(2, 0), or(6, 7), and(5, 8),
			imp(1, 2), or(10, 3), and(9, 11),
			imp(12, 2),
		}, 13},
		// p | (p & p): four pairs of rows share nothing
		{[]api.Node{atom("p"), and(0, 0), or(0, 1)}, 2, []api.Node{
			imp(0, 1), imp(1, 0), or(3, 4),
			imp(0, 2), imp(2, 0), or(6, 7), and(5, 8),
			imp(1, 2), imp(2, 1), or(10, 11), and(9, 12),
			imp(13, 2),
		}, 14},
	} {
		x := made(t, c.rows...)
		r, e := logics.Reduce(x, c.id)
		if r != c.want || e != api.OK || !slices.Equal(x.Rows(), append(slices.Clone(c.rows), c.more...)) {
			t.Errorf("Reduce(%v, %d): %d, error %d, %v", c.rows, c.id, r, e, x.Rows()[min(x.Len(), len(c.rows)):])
		}
		untouched(t, x, func() { // all of it is there by now
			if again, e := logics.Reduce(x, c.id); again != r || e != api.OK {
				t.Errorf("once more: %d, error %d", again, e)
			}
		})
	}
}

// TestReduceFour: P24.6, of four formulas six pairs, by the lesser number, then by the greater one.
func TestReduceFour(t *testing.T) {
	x := made(t, atom("p"), atom("q"), and(0, 1), or(2, 0))
	want := x.Copy()
	pair := func(b, c int) int {
		l, _ := want.Imp(b, c)
		r, _ := want.Imp(c, b)
		both, _ := want.Or(l, r)
		return both
	}
	all := pair(0, 1)
	for _, p := range [][2]int{{0, 2}, {0, 3}, {1, 2}, {1, 3}, {2, 3}} {
		all, _ = want.And(all, pair(p[0], p[1]))
	}
	whole, _ := want.Imp(all, 3)
	if r, e := logics.Reduce(x, 3); r != whole || e != api.OK || !slices.Equal(x.Rows(), want.Rows()) {
		t.Error(r, e, x.Rows(), want.Rows())
	}
}

// TestReduceRoom: P24.6, ErrForms just if a row has no room, with each number of free rows; the table is as it was then.
func TestReduceRoom(t *testing.T) {
	for _, text := range []string{"p", "false", "true", "~p", "p & q", "p -> q", "p | ~p", "(p -> q) | (q -> p)", "~p | ~~p"} {
		x := formula.New()
		id := read(t, x, text)
		rows, _ := plainReduce(x.Rows(), id)
		needs := len(rows) - x.Len()
		for room := range needs + 2 {
			y := filled(t, api.MaxForms-room, x.Rows()...)
			if _, ok := heldReduce(t, y, id); ok != (room >= needs) {
				t.Errorf("%s, room %d of %d: %v", text, room, needs, ok)
			}
		}
		full := filled(t, api.MaxForms, rows...)
		if _, ok := heldReduce(t, full, id); !ok {
			t.Errorf("%s: all of it is there, and it is refused", text)
		}
	}
}

// TestReduceInstead: P24.6, a full table refuses a formula of which it has a part of what is made, also where row 0 stands in the other parts' place.
func TestReduceInstead(t *testing.T) {
	x := made(t, atom("z"), atom("p"), and(1, 1), imp(1, 2), imp(2, 1), imp(0, 0), or(0, 0), and(0, 0), imp(0, 2), imp(0, 4), imp(3, 0), or(3, 0))
	refusesReduce(t, filled(t, api.MaxForms, x.Rows()...), 2, api.ErrForms)
	for room := range 3 {
		heldReduce(t, filled(t, api.MaxForms-room, x.Rows()...), 2)
	}
}
