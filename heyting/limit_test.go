package heyting_test

import (
	"slices"
	"strconv"
	"testing"

	"dictum/api"
	"dictum/formula"
	"dictum/heyting"
)

// large is an algebra of 64 elements with what is told of two elements, in short words.
type large struct {
	a               api.Algebra
	meet, join, imp func(x, y int) int
}

func rowImp(x, y, greatest int) int {
	if x <= y {
		return greatest
	}
	return y
}

// pairs is a large product, of which all is reckoned part by part.
func pairs(high, wide int) large {
	parts := func(high, wide func(x, y int) int, w int) func(x, y int) int {
		return func(x, y int) int { return high(x/w, y/w)*w + wide(x%w, y%w) }
	}
	least := func(x, y int) int { return min(x, y) }
	most := func(x, y int) int { return max(x, y) }
	imp := func(greatest int) func(x, y int) int { return func(x, y int) int { return rowImp(x, y, greatest) } }
	return large{product(high, wide), parts(least, least, wide), parts(most, most, wide), parts(imp(high-1), imp(wide-1), wide)}
}

// larges are algebras of as many elements as may be.
func larges() []large {
	sets := large{subsets(6), func(x, y int) int { return x & y }, func(x, y int) int { return x | y }, func(x, y int) int { return 63&^x | y }}
	all := []large{pairs(1, 64), sets, pairs(8, 8), pairs(4, 16), pairs(32, 2)}
	for i, l := range slices.Clone(all) {
		as := newChance(uint64(60 + i)).Perm(64)
		back := make([]int, 64)
		for x, now := range as {
			back[now] = x
		}
		now := func(of func(x, y int) int) func(x, y int) int {
			return func(x, y int) int { return as[of(back[x], back[y])] }
		}
		all = append(all, large{renamed(l.a, as), now(l.meet), now(l.join), now(l.imp)})
	}
	return all
}

// TestLimitElements: P23.1 and P23.2, 64 elements.
func TestLimitElements(t *testing.T) {
	chance := newChance(6)
	for _, l := range larges() {
		if e := heyting.Check(l.a); e != api.OK {
			t.Fatalf("Check(%s): error %d", show(l.a), e)
		}
		unturned(t, l.a, func() {
			for i := range 60 {
				x, y := chance.IntN(64), chance.IntN(64)
				switch i {
				case 0:
					x, y = 63, 0
				case 1:
					x, y = 0, 63
				case 2:
					x, y = 63, 63
				}
				if z, e := heyting.Meet(l.a, x, y); z != l.meet(x, y) || e != api.OK {
					t.Errorf("Meet(%s, %d, %d): %d, error %d", show(l.a), x, y, z, e)
				}
				if z, e := heyting.Join(l.a, x, y); z != l.join(x, y) || e != api.OK {
					t.Errorf("Join(%s, %d, %d): %d, error %d", show(l.a), x, y, z, e)
				}
				if z, e := heyting.Imp(l.a, x, y); z != l.imp(x, y) || e != api.OK {
					t.Errorf("Imp(%s, %d, %d): %d, error %d", show(l.a), x, y, z, e)
				}
			}
		})
		all, _ := plainTables(l.a)
		heldWhole(t, l.a, all)
	}
}

// TestLimitSpoilt: P23.1, 64 elements with one entry turned.
func TestLimitSpoilt(t *testing.T) {
	chance := newChance(7)
	spoilt := 0
	for _, l := range larges() {
		for range 12 {
			x, y := chance.IntN(64), chance.IntN(64)
			l.a.Leq[x][y] = !l.a.Leq[x][y]
			want := api.OK
			if !plainCheck(l.a) {
				want = api.ErrAlgebra
				spoilt++
			}
			if e := heyting.Check(l.a); e != want {
				t.Errorf("%s: error %d, not %d", show(l.a), e, want)
			}
			l.a.Leq[x][y] = !l.a.Leq[x][y]
		}
	}
	if spoilt < 80 {
		t.Error(spoilt)
	}
}

// TestLimitChain: P23.5, from 1 to 64 elements.
func TestLimitChain(t *testing.T) {
	for n := 1; n <= 64; n++ {
		a, e := heyting.Chain(n)
		if !alike(a, row(n)) || e != api.OK {
			t.Errorf("Chain(%d): %s, error %d", n, show(a), e)
		}
		if e := heyting.Check(a); e != api.OK {
			t.Errorf("Check(Chain(%d)): error %d", n, e)
		}
	}
}

// TestLimitValue: P23.3, as many rows as a table may have, each of whose parts stands in more places than anybody could go through, in 64 elements.
func TestLimitValue(t *testing.T) {
	chance := newChance(8)
	for _, l := range larges() {
		x := made(t, someRows(chance, api.MaxForms, 5, byBytes())...)
		by := someBy(chance, 64, byBytes())
		values := l.plainly(x.Rows(), by)
		for _, id := range to(1023, 1022, 512, 63, 64, 0, chance.IntN(1024)) {
			if v, e := heyting.Value(l.a, x, id, by); v != values[id] || e != api.OK {
				t.Fatalf("Value(%s, %d): %d, error %d, not %d", show(l.a), id, v, e, values[id])
			}
		}
	}
	x := formula.New()
	id, _ := x.Atom("p")
	for x.Len() < api.MaxForms {
		id, _ = x.And(id, id)
	}
	if v, e := heyting.Value(row(64), x, id, hyps("p 63")); v != 63 || e != api.OK {
		t.Error(v, e)
	}
}

// plainly are the values of all rows.
func (l large) plainly(rows []api.Node, by []api.Hyp) []int {
	least, _ := plainBounds(l.a)
	var values []int
	for _, n := range rows {
		switch n.Kind {
		case api.KAtom:
			at := slices.IndexFunc(by, func(h api.Hyp) bool { return h.Name == n.Name })
			values = append(values, by[at].Form)
		case api.KBot:
			values = append(values, least)
		case api.KAnd:
			values = append(values, l.meet(values[n.L], values[n.R]))
		case api.KOr:
			values = append(values, l.join(values[n.L], values[n.R]))
		case api.KImp:
			values = append(values, l.imp(values[n.L], values[n.R]))
		}
	}
	return values
}

// TestLimitNames: P23.3 and P23.4, as many names as one likes.
func TestLimitNames(t *testing.T) {
	var by, want []api.Hyp
	m := line(3)
	for i := range 20000 {
		name := "n" + strconv.Itoa(100000+i)
		by = append(by, api.Hyp{Name: name, Form: i % 4})
		for w := 3 - i%4; w < 3; w++ {
			m.Val[w] = append(m.Val[w], name)
		}
		if i%4 > 0 {
			want = append(want, by[i])
		}
	}
	if got, e := heyting.Atoms(m); !slices.Equal(got, want) || e != api.OK {
		t.Errorf("%d names, error %d", len(got), e)
	}
	x := made(t, atom("n119998"))
	slices.Reverse(by)
	if v, e := heyting.Value(row(4), x, 0, by); v != 2 || e != api.OK {
		t.Error(v, e)
	}
	refusesValue(t, row(4), x, 0, append(by, by[20]), api.ErrArg)
}

// TestLimitUps: P23.4, models of 64 up-sets, with up to 63 worlds.
func TestLimitUps(t *testing.T) {
	chance := newChance(9)
	for _, m := range []api.Model{
		apart(6), line(63), turned(line(63)), beside(line(7), line(7)), beside(line(3), line(15)), beside(turned(line(15)), line(3)), beside(line(1), line(31)), beside(line(31), line(1)),
		beside(beside(line(3), turned(line(3))), line(3)), beside(beside(line(1), line(7)), line(3)), beside(rooted(apart(2)), up(nil)),
	} {
		order := chance.Perm(len(m.Up))
		for range 2 {
			a, sets, e := heyting.Ups(m)
			if e != api.OK || len(m.Up) > 4 && len(sets) != 64 {
				t.Fatalf("Ups(%s): %d sets, error %d", showModel(m), len(sets), e)
			}
			if !alike(a, orderOfSets(sets)) || heyting.Check(a) != api.OK {
				t.Fatalf("Ups(%s): %s", showModel(m), show(a))
			}
			heldSets(t, m, sets)
			m = reordered(m, order)
		}
	}
}

// reordered is the model whose world as[w] is what w was.
func reordered(m api.Model, as []int) api.Model {
	n := apart(len(m.Up))
	for w, row := range m.Up {
		for _, v := range row {
			n.Up[as[w]] = append(n.Up[as[w]], as[v])
		}
		n.Val[as[w]] = m.Val[w]
	}
	return n
}

// heldSets asks that lists are up-sets of a model, rising, and that they rise as numbers with bit w for w.
func heldSets(t *testing.T, m api.Model, sets [][]int) {
	t.Helper()
	above := plainAbove(m.Up)
	for i, l := range sets {
		if !slices.IsSorted(l) || len(slices.Compact(slices.Clone(l))) != len(l) {
			t.Fatalf("%s: %v", showModel(m), l)
		}
		for _, w := range l {
			for v := range m.Up {
				if above[w][v] && !slices.Contains(l, v) {
					t.Fatalf("%s: %v is no up-set", showModel(m), l)
				}
			}
		}
		if i > 0 && number(sets[i-1]) >= number(l) {
			t.Fatalf("%s: %v is ahead of %v", showModel(m), sets[i-1], l)
		}
	}
}

// number is the number that has bit w for each world w of a list.
func number(l []int) uint64 {
	n := uint64(0)
	for _, w := range l {
		n += 1 << w
	}
	return n
}

// TestLimitLine: P23.4, 63 worlds in a row: where an atom is true from one of them on.
func TestLimitLine(t *testing.T) {
	for _, from := range to(0, 1, 30, 31, 32, 61, 62) {
		m := line(63)
		for w := from; w < 63; w++ {
			m.Val[w] = []string{"p"}
		}
		if by, e := heyting.Atoms(m); !slices.Equal(by, []api.Hyp{{Name: "p", Form: 63 - from}}) || e != api.OK {
			t.Errorf("from %d: %v, error %d", from, by, e)
		}
		if by, e := heyting.Atoms(turned(m)); !slices.Equal(by, []api.Hyp{{Name: "p", Form: 63 - from}}) || e != api.OK {
			t.Errorf("from %d, turned: %v, error %d", from, by, e)
		}
		_, sets, _ := heyting.Ups(m)
		if !slices.Equal(sets[63-from], run(from, 63)) {
			t.Errorf("from %d: %v", from, sets[63-from])
		}
	}
}

// TestLimitRows: P23.4, rows of Up that tell much more than they must.
func TestLimitRows(t *testing.T) {
	m := apart(63)
	for w := range m.Up {
		for range 400 {
			m.Up[w] = append(m.Up[w], backwards(63)[:63-w]...)
		}
	}
	a, sets, e := heyting.Ups(m)
	if !alike(a, row(64)) || len(sets) != 64 || !slices.Equal(sets[10], run(53, 63)) || e != api.OK {
		t.Error(show(a), len(sets), e)
	}
}

// TestLimitPrimes: P23.5, the most worlds and the fewest of 64 elements.
func TestLimitPrimes(t *testing.T) {
	m, l, e := heyting.Primes(row(64))
	if !alikeModel(m, turned(line(63))) || !slices.Equal(l, run(1, 64)) || e != api.OK {
		t.Error(showModel(m), l, e)
	}
	m, l, e = heyting.Primes(subsets(6))
	if !alikeModel(m, apart(6)) || !slices.Equal(l, to(1, 2, 4, 8, 16, 32)) || e != api.OK {
		t.Error(showModel(m), l, e)
	}
	m, l, e = heyting.Primes(product(8, 8))
	if !alikeModel(m, beside(turned(line(7)), turned(line(7)))) || !slices.Equal(l, to(1, 2, 3, 4, 5, 6, 7, 8, 16, 24, 32, 40, 48, 56)) || e != api.OK {
		t.Error(showModel(m), l, e)
	}
}
