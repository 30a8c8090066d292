package worlds_test

import (
	"slices"
	"testing"

	"dictum/api"
	"dictum/worlds"
)

// leqOf is the order of a well-formed model, asked pair by pair.
func leqOf(t *testing.T, m api.Model) [][]bool {
	t.Helper()
	order := make([][]bool, len(m.Up))
	for a := range m.Up {
		for b := range m.Up {
			ok, e := worlds.Leq(m, a, b)
			if e != api.OK {
				t.Fatalf("Leq(%s, %d, %d): error %d", show(m), a, b, e)
			}
			order[a] = append(order[a], ok)
		}
	}
	return order
}

func sameOrder(a, b [][]bool) bool { return slices.EqualFunc(a, b, slices.Equal[[]bool]) }

// TestFollowsOrder: P17.5, Above is a partial order, and Leq is the same one.
func TestFollowsOrder(t *testing.T) {
	r := newChance(6)
	for range 400 {
		m := rightModel(r, 12)
		order := leqOf(t, m)
		for a := range order {
			if !order[a][a] {
				t.Errorf("%s: %d is not above itself", show(m), a)
			}
			l := above(t, m, a)
			for b := range order {
				if order[a][b] != slices.Contains(l, b) {
					t.Errorf("%s: Leq and Above of %d and %d", show(m), a, b)
				}
				if a != b && order[a][b] && order[b][a] {
					t.Errorf("%s: %d and %d are each above the other one", show(m), a, b)
				}
				for c := range order {
					if order[a][b] && order[b][c] && !order[a][c] {
						t.Errorf("%s: %d, %d, %d", show(m), a, b, c)
					}
				}
			}
		}
	}
}

// TestFollowsTidy: P17.5, Tidy is well-formed, has the same order, root and height, and Tidy of Tidy is Tidy.
func TestFollowsTidy(t *testing.T) {
	r := newChance(7)
	for range 1500 {
		m := rightModel(r, 12)
		tidy, e := worlds.Tidy(m)
		if e != api.OK || worlds.Check(tidy) != api.OK || !slices.EqualFunc(m.Val, tidy.Val, slices.Equal[[]string]) {
			t.Fatalf("Tidy(%s): %s, error %d", show(m), show(tidy), e)
		}
		if !sameOrder(leqOf(t, m), leqOf(t, tidy)) {
			t.Errorf("Tidy(%s) has another order: %s", show(m), show(tidy))
		}
		again, e := worlds.Tidy(tidy)
		if e != api.OK || !alike(again, tidy) {
			t.Errorf("Tidy of Tidy(%s): %s, error %d", show(m), show(again), e)
		}
		w, ok := worlds.Root(m)
		v, is := worlds.Root(tidy)
		h, _ := worlds.Height(m)
		g, _ := worlds.Height(tidy)
		if w != v || ok != is || h != g {
			t.Errorf("Tidy(%s): %s", show(m), show(tidy))
		}
	}
}

// TestFollowsFewest: P17.5, of all rows that order up to four worlds so, Tidy's has the fewest numbers, row by row.
func TestFollowsFewest(t *testing.T) {
	for many := 1; many <= 4; many++ {
		orders := map[string]bool{}
		for pairs := range 1 << (many * many) {
			m := apart(many)
			for pair := range many * many {
				if pairs>>pair&1 == 1 {
					m.Up[pair/many] = append(m.Up[pair/many], pair%many)
				}
			}
			if worlds.Check(m) != api.OK {
				continue
			}
			tidy, e := worlds.Tidy(m)
			for a, row := range tidy.Up {
				if e != api.OK || len(row) > len(m.Up[a]) {
					t.Errorf("Tidy(%s): %s, error %d", show(m), show(tidy), e)
				}
			}
			orders[worlds.Text(tidy)] = true
		}
		if want := to(0, 1, 3, 19, 219)[many]; len(orders) != want { // how many partial orders there are of so many worlds
			t.Errorf("%d worlds: %d orders, not %d", many, len(orders), want)
		}
	}
}

// TestFollowsNoneLess: P17.5, none of the numbers of a Tidy can be left out.
func TestFollowsNoneLess(t *testing.T) {
	r := newChance(8)
	for range 300 {
		m, _ := worlds.Tidy(rightModel(r, 10))
		order := leqOf(t, m)
		for w := range m.Up {
			for i := range m.Up[w] {
				less := clone(m)
				less.Up[w] = slices.Delete(less.Up[w], i, i+1)
				if worlds.Check(less) != api.OK || sameOrder(order, leqOf(t, less)) {
					t.Errorf("%s: the same order without %d of %d", show(m), i, w)
				}
			}
		}
	}
}

// TestFollowsText: P17.5, Parse of Text of a well-formed model has the same rows.
func TestFollowsText(t *testing.T) {
	r := newChance(9)
	for range 3000 {
		m := rightModel(r, 40)
		untouched(t, m, func() { takeText(t, worlds.Text(m), m) })
		tidy, _ := worlds.Tidy(m)
		takeText(t, worlds.Text(tidy), tidy)
	}
}

// TestSame: R8, the same call on the same arguments answers the same.
func TestSame(t *testing.T) {
	r := newChance(10)
	for range 300 {
		m := rightModel(r, 12)
		a, e := worlds.Tidy(m)
		b, f := worlds.Tidy(clone(m))
		if !alike(a, b) || e != f || worlds.Text(m) != worlds.Text(clone(m)) {
			t.Error(show(a), show(b))
		}
	}
}
