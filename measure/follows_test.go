package measure_test

import (
	"math/rand/v2"
	"slices"
	"testing"

	"dictum/api"
	"dictum/formula"
	"dictum/measure"
)

func newChance(seed uint64) *rand.Rand { return rand.New(rand.NewPCG(6, seed)) }

// holdsTree holds all that is told of one formula against the tree of it.
func holdsTree(t *testing.T, f *formula.Table, rows []api.Node, id int) {
	t.Helper()
	x := grow(rows, id)
	for i, want := range []int{x.size(), x.depth(), x.weight(), x.grade()} {
		is(t, counts()[i], f, id, want)
	}
	all, pos, neg := x.names()
	atoms(t, f, id, all...)
	signs(t, f, id, pos, neg)
	for part := range rows {
		p, n := x.occurs(part)
		occurs(t, f, part, id, p, n)
	}
}

// TestAgainstTrees: P6.1, P6.3 and P6.4, formulas by chance against trees in which nothing is shared.
func TestAgainstTrees(t *testing.T) {
	chance := newChance(1)
	for range 300 {
		rows := someRows(chance, 4+chance.IntN(12), 8)
		f := made(t, rows)
		for id := range rows {
			holdsTree(t, f, rows, id)
		}
		if l := f.Rows(); !slices.Equal(l, rows) {
			t.Fatalf("the rows have become %v", l)
		}
	}
}

// TestSmallTables: P6.1, P6.3 and P6.4, each table of p, false and up to two rows behind them.
func TestSmallTables(t *testing.T) {
	var grown func(rows []api.Node, more int)
	grown = func(rows []api.Node, more int) {
		f, e := formula.From(rows)
		if e != api.OK { // two rows alike
			return
		}
		holdsTree(t, f, rows, len(rows)-1)
		if more == 0 {
			return
		}
		for _, kind := range []api.Kind{api.KAnd, api.KOr, api.KImp} {
			for l := range rows {
				for r := range rows {
					grown(append(slices.Clone(rows), join(kind, l, r)), more-1)
				}
			}
		}
	}
	grown([]api.Node{atom("p"), bot()}, 3)
}

// one is what a call tells of a formula that is there.
func one(t *testing.T, c func(*formula.Table, int) (int, api.Errno), f *formula.Table, id int) int {
	t.Helper()
	n, e := c(f, id)
	if e != api.OK {
		t.Fatalf("formula %d: error %d", id, e)
	}
	return n
}

// TestFollowsOfCounts: P6.5, Size is at most Weight, a part's Weight is less than the whole's, Depth is below the number of rows, and Size is the sum of what Occurs tells.
func TestFollowsOfCounts(t *testing.T) {
	chance := newChance(2)
	for range 60 {
		rows := someRows(chance, 30, 12)
		f := made(t, rows)
		for id := range rows {
			if one(t, measure.Depth, f, id) >= f.Len() {
				t.Fatalf("Depth of row %d of %v", id, rows)
			}
			size, weight := one(t, measure.Size, f, id), one(t, measure.Weight, f, id)
			if weight == api.MaxCount {
				continue
			}
			if size > weight {
				t.Fatalf("row %d of %v: Size %d, Weight %d", id, rows, size, weight)
			}
			all := 0
			for part := range rows {
				pos, neg, _ := measure.Occurs(f, part, id)
				all += pos + neg
				if part != id && pos+neg > 0 && one(t, measure.Weight, f, part) >= weight {
					t.Fatalf("row %d of %v: its part %d is not lighter", id, rows, part)
				}
			}
			if all != size {
				t.Fatalf("row %d of %v: Size %d, but %d in all", id, rows, size, all)
			}
		}
	}
}

// TestFollowsOfSigns: P6.5, an atom stands somewhere positively just if Signs has it first, also where counts end; the same of the other side.
func TestFollowsOfSigns(t *testing.T) {
	chance := newChance(4)
	for range 25 {
		rows := someRows(chance, 150, 20)
		f := made(t, rows)
		for id := range rows {
			pos, neg, _ := measure.Signs(f, id)
			for part, n := range rows {
				if n.Kind != api.KAtom {
					continue
				}
				p, q, _ := measure.Occurs(f, part, id)
				if slices.Contains(pos, n.Name) != (p > 0) || slices.Contains(neg, n.Name) != (q > 0) {
					t.Fatalf("row %d of %v: %s, %d and %d times, Signs %v and %v", id, rows, n.Name, p, q, pos, neg)
				}
			}
		}
	}
}

// TestFollowsOfLess: P6.5, no row is below itself, what is below something below a third is below that, and of two rows that are not the same but for order one is below the other.
func TestFollowsOfLess(t *testing.T) {
	rows := rowsOf(4, -1, 0, 3)
	alike := func(a, b []int) bool {
		return slices.Equal(slices.Sorted(slices.Values(a)), slices.Sorted(slices.Values(b)))
	}
	for _, a := range rows {
		for _, b := range rows {
			up, down := measure.Less(a, b), measure.Less(b, a)
			if up && down || (up || down) == alike(a, b) {
				t.Fatalf("%v and %v: %v, %v", a, b, up, down)
			}
			if !up {
				continue
			}
			for _, c := range rows {
				if measure.Less(b, c) && !measure.Less(a, c) {
					t.Fatalf("%v is below %v, that below %v", a, b, c)
				}
			}
		}
	}
}
