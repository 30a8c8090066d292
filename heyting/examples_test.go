package heyting_test

import (
	"slices"
	"testing"

	"dictum/api"
	"dictum/formula"
	"dictum/heyting"
	"dictum/syntax"
)

// TestExampleChain is the chapter's example 1.
func TestExampleChain(t *testing.T) {
	a, e := heyting.Chain(3)
	if !alike(a, order("111", "011", "001")) || e != api.OK {
		t.Fatal(show(a), e)
	}
	if z, e := heyting.Imp(a, 1, 0); z != 0 || e != api.OK {
		t.Error(z, e)
	}
	if z, e := heyting.Imp(a, 0, 1); z != 2 || e != api.OK {
		t.Error(z, e)
	}
	if is, e := heyting.Boolean(a); is || e != api.OK {
		t.Error(is, e)
	}
	b, _ := heyting.Chain(2)
	if is, e := heyting.Boolean(b); !is || e != api.OK {
		t.Error(is, e)
	}
}

// TestExampleUps is the chapter's example 2.
func TestExampleUps(t *testing.T) {
	a, l, e := heyting.Ups(apart(1))
	if !alike(a, order("11", "01")) || len(l) != 2 || len(l[0]) != 0 || !slices.Equal(l[1], to(0)) || e != api.OK {
		t.Error(show(a), l, e)
	}
	a, l, e = heyting.Ups(up(to(1), nil))
	if !alike(a, order("111", "011", "001")) || len(l) != 3 || len(l[0]) != 0 || !slices.Equal(l[1], to(1)) || !slices.Equal(l[2], to(0, 1)) || e != api.OK {
		t.Error(show(a), l, e)
	}
	a, l, e = heyting.Ups(apart(7))
	if len(a.Leq) != 0 || len(l) != 0 || e != api.ErrMany {
		t.Error(show(a), l, e)
	}
}

// TestExamplePrimes is the chapter's example 3.
func TestExamplePrimes(t *testing.T) {
	if e := heyting.Check(order("111", "010", "001")); e != api.ErrAlgebra {
		t.Error(e)
	}
	a, _ := heyting.Chain(3)
	m, l, e := heyting.Primes(a)
	if !alikeModel(m, up(nil, to(0))) || !slices.Equal(l, to(1, 2)) || e != api.OK {
		t.Error(showModel(m), l, e)
	}
}

// TestReadme is what README.md shows.
func TestReadme(t *testing.T) {
	m := api.Model{Up: [][]int{{1, 2}, {}, {}}, Val: [][]string{{}, {"p"}, {}}}
	a, sets, e := heyting.Ups(m)
	if !slices.EqualFunc(sets, [][]int{{}, {1}, {2}, {1, 2}, {0, 1, 2}}, slices.Equal[[]int]) || e != api.OK {
		t.Error(sets, e)
	}
	if e := heyting.Check(a); e != api.OK {
		t.Error(e)
	}
	x, e := heyting.Join(a, 1, 2)
	y, f := heyting.Meet(a, 1, 2)
	if x != 3 || y != 0 || e != api.OK || f != api.OK {
		t.Error(x, e, y, f)
	}
	z, e := heyting.Imp(a, 1, 0)
	if z != 2 || e != api.OK {
		t.Error(z, e)
	}
	least, greatest, e := heyting.Bounds(a)
	if least != 0 || greatest != 4 || e != api.OK {
		t.Error(least, greatest, e)
	}
	if ok, e := heyting.Boolean(a); ok || e != api.OK {
		t.Error(ok, e)
	}
	by, e := heyting.Atoms(m)
	if !slices.Equal(by, []api.Hyp{{Name: "p", Form: 1}}) || e != api.OK {
		t.Error(by, e)
	}
	table := formula.New()
	id, _ := syntax.Parse(table, "p | ~p")
	if v, e := heyting.Value(a, table, id, by); v != 3 || e != api.OK {
		t.Error(v, e)
	}
	n, primes, e := heyting.Primes(a)
	if !slices.Equal(primes, to(1, 2, 4)) || !alikeModel(n, up(nil, nil, to(0, 1))) || e != api.OK {
		t.Error(showModel(n), primes, e)
	}
	c, e := heyting.Chain(3)
	if !alike(c, order("111", "011", "001")) || e != api.OK {
		t.Error(show(c), e)
	}
}

// TestElements: P23.2, by hand, of sets as numbers, of pairs, and of four sets with one more below or above.
func TestElements(t *testing.T) {
	is := func(call string, got int, e api.Errno, want int) {
		t.Helper()
		if got != want || e != api.OK {
			t.Errorf("%s: %d, error %d, not %d", call, got, e, want)
		}
	}
	above := stacked(row(1), subsets(2)) // 0 below 1; 2 and 3; 4
	below := stacked(subsets(2), row(1)) // 0; 1 and 2; 3, below 4
	for _, c := range []struct {
		a                     api.Algebra
		x, y, meet, join, imp int
	}{
		{row(1), 0, 0, 0, 0, 0},
		{row(5), 2, 3, 2, 3, 4},
		{row(5), 3, 2, 2, 3, 2},
		{row(5), 3, 3, 3, 3, 4},
		{subsets(3), 3, 5, 1, 7, 5},
		{subsets(3), 6, 0, 0, 6, 1},
		{subsets(3), 0, 6, 0, 6, 7},
		{subsets(3), 7, 2, 2, 7, 2},
		{product(3, 4), 6, 9, 5, 10, 9}, // (1, 2) and (2, 1)
		{product(3, 4), 9, 6, 5, 10, 7},
		{product(3, 4), 11, 0, 0, 11, 0},
		{product(3, 4), 4, 3, 0, 7, 3},
		{above, 2, 3, 1, 4, 3},
		{above, 2, 0, 0, 2, 0},
		{above, 1, 0, 0, 1, 0},
		{below, 1, 2, 0, 3, 2},
		{below, 1, 0, 0, 1, 2},
		{below, 3, 1, 1, 3, 1},
		{below, 1, 3, 1, 3, 4},
		{order("1000", "1100", "1110", "1111"), 1, 3, 3, 1, 3}, // 3 below 2 below 1 below 0
		{order("1000", "1100", "1110", "1111"), 3, 1, 3, 1, 0},
	} {
		z, e := heyting.Meet(c.a, c.x, c.y)
		is("Meet of "+show(c.a), z, e, c.meet)
		z, e = heyting.Join(c.a, c.x, c.y)
		is("Join of "+show(c.a), z, e, c.join)
		z, e = heyting.Imp(c.a, c.x, c.y)
		is("Imp of "+show(c.a), z, e, c.imp)
	}
}

// TestWhole: P23.2 and P23.5, Bounds, Boolean and Primes by hand.
func TestWhole(t *testing.T) {
	for _, c := range []struct {
		a               api.Algebra
		least, greatest int
		boolean         bool
		primes          []int
		model           api.Model
	}{
		{row(1), 0, 0, true, nil, api.Model{}},
		{row(2), 0, 1, true, to(1), up(nil)},
		{order("10", "11"), 1, 0, true, to(0), up(nil)},
		{row(4), 0, 3, false, to(1, 2, 3), up(nil, to(0), to(1))},
		{order("1000", "1100", "1110", "1111"), 3, 0, false, to(0, 1, 2), up(to(1), to(2), nil)},
		{order("111", "010", "011"), 0, 1, false, to(1, 2), up(to(1), nil)},
		{subsets(2), 0, 3, true, to(1, 2), up(nil, nil)},
		{subsets(3), 0, 7, true, to(1, 2, 4), up(nil, nil, nil)},
		{stacked(row(1), subsets(2)), 0, 4, false, to(1, 2, 3), up(nil, to(0), to(0))},
		{stacked(subsets(2), row(1)), 0, 4, false, to(1, 2, 4), up(nil, nil, to(0, 1))},
		{product(2, 3), 0, 5, false, to(1, 2, 3), up(nil, to(0), nil)},
		{renamed(product(2, 3), to(3, 5, 1, 4, 2, 0)), 3, 0, false, to(1, 4, 5), up(to(2), nil, nil)},
		{renamed(stacked(subsets(2), subsets(2)), to(6, 1, 5, 7, 0, 3, 2, 4)), 6, 4, false, to(0, 1, 2, 3, 5), up(to(1, 4), nil, to(0), to(0), nil)},
	} {
		if x, y, e := heyting.Bounds(c.a); x != c.least || y != c.greatest || e != api.OK {
			t.Errorf("Bounds(%s): %d, %d, error %d", show(c.a), x, y, e)
		}
		if is, e := heyting.Boolean(c.a); is != c.boolean || e != api.OK {
			t.Errorf("Boolean(%s): %v, error %d", show(c.a), is, e)
		}
		if c.primes == nil {
			refusesPrimes(t, c.a, api.ErrMany)
			continue
		}
		if m, l, e := heyting.Primes(c.a); !alikeModel(m, c.model) || !slices.Equal(l, c.primes) || e != api.OK {
			t.Errorf("Primes(%s): %s, %v, error %d, not %s, %v", show(c.a), showModel(m), l, e, showModel(c.model), c.primes)
		}
	}
}

// TestUps: P23.4, up-sets and atoms by hand: the numbers of sets tell their order, not how many worlds they have.
func TestUps(t *testing.T) {
	for _, c := range []struct {
		m    api.Model
		sets [][]int
		by   []api.Hyp
	}{
		{with(up(nil), "p"), [][]int{{}, {0}}, hyps("p 1")},
		{with(up(nil), ""), [][]int{{}, {0}}, nil},
		{with(up(to(1), nil), "", "p"), [][]int{{}, {1}, {0, 1}}, hyps("p 1")},
		{with(up(nil, to(0)), "p,q", "q"), [][]int{{}, {0}, {0, 1}}, hyps("p 1 q 2")},
		{with(up(to(0, 0), to(0, 1)), "p", "p"), [][]int{{}, {0}, {0, 1}}, hyps("p 2")},
		{with(up(to(1, 2), nil, nil), "", "q", "p"), [][]int{{}, {1}, {2}, {1, 2}, {0, 1, 2}}, hyps("p 2 q 1")},
		{with(up(to(2), to(2), nil), "P,p", "p", "P,p,q"), [][]int{{}, {2}, {0, 2}, {1, 2}, {0, 1, 2}}, hyps("P 2 p 4 q 1")},
		{with(up(nil, nil, nil), "a", "b", "a"), [][]int{{}, {0}, {1}, {0, 1}, {2}, {0, 2}, {1, 2}, {0, 1, 2}}, hyps("a 5 b 2")},
		{with(up(to(3), nil, to(1, 0), nil), "z", "a", "", "z"), [][]int{{}, {1}, {3}, {0, 3}, {1, 3}, {0, 1, 3}, {0, 1, 2, 3}}, hyps("a 1 z 3")},
	} {
		unturnedModel(t, c.m, func() {
			a, l, e := heyting.Ups(c.m)
			if !alike(a, orderOfSets(c.sets)) || !slices.EqualFunc(l, c.sets, slices.Equal[[]int]) || e != api.OK {
				t.Errorf("Ups(%s): %s, %v, error %d, not %v", showModel(c.m), show(a), l, e, c.sets)
			}
			if by, e := heyting.Atoms(c.m); !slices.Equal(by, c.by) || e != api.OK {
				t.Errorf("Atoms(%s): %v, error %d, not %v", showModel(c.m), by, e, c.by)
			}
		})
	}
}

// TestValue: P23.3, by hand: in a row of four, and in four sets with one above.
func TestValue(t *testing.T) {
	below := stacked(subsets(2), row(1)) // 0; 1 and 2; 3, below 4
	for _, c := range []struct {
		a        api.Algebra
		text, by string
		want     int
	}{
		{row(4), "p", "p 2", 2},
		{row(4), "false", "p 2", 0},
		{row(4), "true", "", 3},
		{row(4), "p & q", "p 2 q 1", 1},
		{row(4), "p | q", "p 2 q 1", 2},
		{row(4), "p -> q", "p 2 q 1", 1},
		{row(4), "q -> p", "p 2 q 1", 3},
		{row(4), "~p", "p 2", 0},
		{row(4), "~~p", "p 2", 3},
		{row(4), "~~p -> p", "p 2", 2},
		{row(4), "p | ~p", "p 1", 1},
		{row(4), "(p -> q) | (q -> p)", "q 1 p 2", 3},
		{row(4), "((p -> q) -> p) -> p", "q 1 p 2", 2},
		{row(4), "((p -> q) -> p) -> p", "q 0 p 1", 1},
		{below, "p | ~p", "p 1", 3},
		{below, "~p | ~~p", "p 1", 3},
		{below, "~~p", "p 1", 1},
		{below, "~~p", "p 3", 4},
		{below, "(p -> q) | (q -> p)", "p 1 q 2", 3},
		{below, "p & q -> r", "p 1 q 2 r 0", 4},
		{below, "p | q -> r", "p 1 q 2 r 0", 0},
		{row(1), "p & ~p", "p 0", 0},
		{row(1), "p -> p", "p 0", 0},
		{order("100", "111", "101"), "false", "", 1},
		{order("100", "111", "101"), "p | ~p", "p 2", 2},
		{order("100", "111", "101"), "p -> p", "p 2", 0},
	} {
		x := formula.New()
		id := read(t, x, c.text)
		if v, e := heyting.Value(c.a, x, id, hyps(c.by)); v != c.want || e != api.OK {
			t.Errorf("Value(%s, %s, %s): %d, error %d, not %d", show(c.a), c.text, c.by, v, e, c.want)
		}
	}
}
