package heyting_test

import (
	"slices"
	"testing"

	"dictum/api"
	"dictum/formula"
	"dictum/heyting"
)

// A plain reading of the chapter, word by word and as slow as it is.

// greatestOf is the number of a list that all others of it are at most.
func greatestOf(a api.Algebra, l []int) (int, bool) {
	for _, z := range l {
		if !slices.ContainsFunc(l, func(w int) bool { return !a.Leq[w][z] }) {
			return z, true
		}
	}
	return 0, false
}

// leastOf is the number of a list that is at most all others of it.
func leastOf(a api.Algebra, l []int) (int, bool) {
	for _, z := range l {
		if !slices.ContainsFunc(l, func(w int) bool { return !a.Leq[z][w] }) {
			return z, true
		}
	}
	return 0, false
}

func plainMeet(a api.Algebra, x, y int) (int, bool) {
	var l []int
	for z := range a.Leq {
		if a.Leq[z][x] && a.Leq[z][y] {
			l = append(l, z)
		}
	}
	return greatestOf(a, l)
}

func plainJoin(a api.Algebra, x, y int) (int, bool) {
	var l []int
	for z := range a.Leq {
		if a.Leq[x][z] && a.Leq[y][z] {
			l = append(l, z)
		}
	}
	return leastOf(a, l)
}

func plainOrder(a api.Algebra) bool {
	for x := range a.Leq {
		if !a.Leq[x][x] {
			return false
		}
		for y := range a.Leq {
			if x != y && a.Leq[x][y] && a.Leq[y][x] {
				return false
			}
			for z := range a.Leq {
				if a.Leq[x][y] && a.Leq[y][z] && !a.Leq[x][z] {
					return false
				}
			}
		}
	}
	return true
}

// tables are the meetings and joinings of any two elements.
type tables struct{ meet, join [][]int }

func plainTables(a api.Algebra) (tables, bool) {
	var all tables
	for x := range a.Leq {
		all.meet, all.join = append(all.meet, nil), append(all.join, nil)
		for y := range a.Leq {
			m, ok := plainMeet(a, x, y)
			j, too := plainJoin(a, x, y)
			if !ok || !too {
				return tables{}, false
			}
			all.meet[x], all.join[x] = append(all.meet[x], m), append(all.join[x], j)
		}
	}
	return all, true
}

func plainCheck(a api.Algebra) bool {
	many := len(a.Leq)
	if many == 0 || many > 64 {
		return false
	}
	for _, row := range a.Leq {
		if len(row) != many {
			return false
		}
	}
	if !plainOrder(a) {
		return false
	}
	all, ok := plainTables(a)
	if !ok {
		return false
	}
	for x := range many {
		for y := range many {
			for z := range many {
				if all.meet[x][all.join[y][z]] != all.join[all.meet[x][y]][all.meet[x][z]] {
					return false
				}
			}
		}
	}
	return true
}

func plainImp(a api.Algebra, all tables, x, y int) int {
	var l []int
	for z := range a.Leq {
		if a.Leq[all.meet[z][x]][y] {
			l = append(l, z)
		}
	}
	z, ok := greatestOf(a, l)
	if !ok {
		panic("there is no greatest one")
	}
	return z
}

func plainBounds(a api.Algebra) (int, int) {
	every := run(0, len(a.Leq))
	least, _ := leastOf(a, every)
	greatest, _ := greatestOf(a, every)
	return least, greatest
}

func plainBoolean(a api.Algebra, all tables) bool {
	least, greatest := plainBounds(a)
	for x := range a.Leq {
		if all.join[x][plainImp(a, all, x, least)] != greatest {
			return false
		}
	}
	return true
}

// plainValue goes down a formula, each part as often as it stands there.
func plainValue(a api.Algebra, all tables, rows []api.Node, id int, by []api.Hyp) (int, bool) {
	n := rows[id]
	switch n.Kind {
	case api.KAtom:
		at := slices.IndexFunc(by, func(h api.Hyp) bool { return h.Name == n.Name })
		if at < 0 {
			return 0, false
		}
		return by[at].Form, true
	case api.KBot:
		least, _ := plainBounds(a)
		return least, true
	}
	l, ok := plainValue(a, all, rows, n.L, by)
	r, too := plainValue(a, all, rows, n.R, by)
	switch {
	case !ok || !too:
		return 0, false
	case n.Kind == api.KAnd:
		return all.meet[l][r], true
	case n.Kind == api.KOr:
		return all.join[l][r], true
	}
	return plainImp(a, all, l, r), true
}

// plainBy tells whether elements by names are such as Value takes.
func plainBy(many int, by []api.Hyp) bool {
	for i, h := range by {
		if h.Form < 0 || h.Form > many-1 {
			return false
		}
		for _, other := range by[:i] {
			if other.Name == h.Name {
				return false
			}
		}
	}
	return true
}

// plainAbove tells of two worlds whether the second one is above the first one: rows of pairs that grow until nothing is new.
func plainAbove(rows [][]int) [][]bool {
	above := make([][]bool, len(rows))
	for a := range rows {
		above[a] = make([]bool, len(rows))
		above[a][a] = true
	}
	for grown := true; grown; {
		grown = false
		for a, row := range rows {
			for _, c := range row {
				for b := range rows {
					if above[c][b] && !above[a][b] {
						above[a][b], grown = true, true
					}
				}
			}
		}
	}
	return above
}

// plainUps goes through all sets of worlds by their numbers.
func plainUps(m api.Model) [][]int {
	above := plainAbove(m.Up)
	var found [][]int
	for number := range 1 << len(m.Up) {
		var l []int
		up := true
		for w := range m.Up {
			if number>>w&1 == 0 {
				continue
			}
			l = append(l, w)
			for v := range m.Up {
				if above[w][v] && number>>v&1 == 0 {
					up = false
				}
			}
		}
		if up {
			found = append(found, l)
		}
	}
	return found
}

// allOf tells whether all numbers of a list stand in another one.
func allOf(l, other []int) bool {
	return !slices.ContainsFunc(l, func(w int) bool { return !slices.Contains(other, w) })
}

// orderOfSets is the order of lists of worlds in which one is at most another one, if all of it is in.
func orderOfSets(sets [][]int) api.Algebra {
	return orderOf(len(sets), func(x, y int) bool { return allOf(sets[x], sets[y]) })
}

func plainAtoms(m api.Model, sets [][]int) []api.Hyp {
	var found []api.Hyp
	for _, name := range slices.Compact(slices.Sorted(slices.Values(slices.Concat(m.Val...)))) {
		var l []int
		for w, names := range m.Val {
			if slices.Contains(names, name) {
				l = append(l, w)
			}
		}
		x := slices.IndexFunc(sets, func(other []int) bool { return slices.Equal(l, other) })
		found = append(found, api.Hyp{Name: name, Form: x})
	}
	return found
}

// plainTidy is the model in which each world of so many tells those next above it.
func plainTidy(many int, above func(w, v int) bool) api.Model {
	m := apart(many)
	for w := range many {
		for v := range many {
			third := false
			for u := range many {
				third = third || u != w && u != v && above(w, u) && above(u, v)
			}
			if v != w && above(w, v) && !third {
				m.Up[w] = append(m.Up[w], v)
			}
		}
	}
	return m
}

func plainPrimes(a api.Algebra, all tables) (api.Model, []int) {
	least, _ := plainBounds(a)
	var primes []int
	for x := range a.Leq {
		joined := x == least
		for y := range a.Leq {
			for z := range a.Leq {
				joined = joined || x != y && x != z && all.join[y][z] == x
			}
		}
		if !joined {
			primes = append(primes, x)
		}
	}
	return plainTidy(len(primes), func(w, v int) bool { return a.Leq[primes[v]][primes[w]] }), primes
}

// held holds all calls on an order, but Value, against the plain reading, and answers whether it is an algebra.
func held(t *testing.T, a api.Algebra) bool {
	t.Helper()
	right := plainCheck(a)
	unturned(t, a, func() {
		if right {
			all, _ := plainTables(a)
			heldElements(t, a, all)
			heldWhole(t, a, all)
		} else {
			refusesAlgebra(t, a)
		}
	})
	return right
}

// heldElements asks what is told of any two elements.
func heldElements(t *testing.T, a api.Algebra, all tables) {
	t.Helper()
	for x := range a.Leq {
		for y := range a.Leq {
			if z, e := heyting.Meet(a, x, y); z != all.meet[x][y] || e != api.OK {
				t.Fatalf("Meet(%s, %d, %d): %d, error %d", show(a), x, y, z, e)
			}
			if z, e := heyting.Join(a, x, y); z != all.join[x][y] || e != api.OK {
				t.Fatalf("Join(%s, %d, %d): %d, error %d", show(a), x, y, z, e)
			}
			if z, e := heyting.Imp(a, x, y); z != plainImp(a, all, x, y) || e != api.OK {
				t.Fatalf("Imp(%s, %d, %d): %d, error %d", show(a), x, y, z, e)
			}
		}
	}
}

// heldWhole asks what is told of an algebra as a whole.
func heldWhole(t *testing.T, a api.Algebra, all tables) {
	t.Helper()
	if e := heyting.Check(a); e != api.OK {
		t.Fatalf("Check(%s): error %d", show(a), e)
	}
	least, greatest := plainBounds(a)
	if x, y, e := heyting.Bounds(a); x != least || y != greatest || e != api.OK {
		t.Fatalf("Bounds(%s): %d, %d, error %d", show(a), x, y, e)
	}
	if is, e := heyting.Boolean(a); is != plainBoolean(a, all) || e != api.OK {
		t.Fatalf("Boolean(%s): %v, error %d", show(a), is, e)
	}
	if len(a.Leq) == 1 {
		refusesPrimes(t, a, api.ErrMany)
		return
	}
	want, primes := plainPrimes(a, all)
	if m, l, e := heyting.Primes(a); !alikeModel(m, want) || !slices.Equal(l, primes) || e != api.OK {
		t.Fatalf("Primes(%s): %s, %v, error %d, not %s, %v", show(a), showModel(m), l, e, showModel(want), primes)
	}
}

// heldValue holds Value of an algebra against the plain reading, and answers whether it is refused.
func heldValue(t *testing.T, a api.Algebra, x *formula.Table, id int, by []api.Hyp) bool {
	t.Helper()
	all, _ := plainTables(a)
	want, ok := 0, plainBy(len(a.Leq), by)
	if ok {
		want, ok = plainValue(a, all, x.Rows(), id, by)
	}
	wantE := api.OK
	if !ok {
		want, wantE = 0, api.ErrArg
	}
	before := slices.Clone(by)
	untouched(t, x, func() {
		unturned(t, a, func() {
			if v, e := heyting.Value(a, x, id, by); v != want || e != wantE {
				t.Fatalf("Value(%s, %d of %v, %v): %d, error %d, not %d, error %d", show(a), id, x.Rows(), by, v, e, want, wantE)
			}
		})
	})
	if !slices.Equal(by, before) {
		t.Fatalf("%v became %v", before, by)
	}
	return ok
}

// heldModel holds Ups and Atoms of a well-formed model against the plain reading, and answers whether it has few enough up-sets.
func heldModel(t *testing.T, m api.Model) bool {
	t.Helper()
	sets := plainUps(m)
	if len(sets) > 64 {
		refusesModel(t, m, api.ErrMany)
		return false
	}
	unturnedModel(t, m, func() {
		a, l, e := heyting.Ups(m)
		if !alike(a, orderOfSets(sets)) || !slices.EqualFunc(l, sets, slices.Equal[[]int]) || e != api.OK {
			t.Fatalf("Ups(%s): %s, %v, error %d, not %v", showModel(m), show(a), l, e, sets)
		}
		by, e := heyting.Atoms(m)
		if !slices.Equal(by, plainAtoms(m, sets)) || e != api.OK {
			t.Fatalf("Atoms(%s): %v, error %d", showModel(m), by, e)
		}
	})
	return true
}

// eachOrder goes through all ways to tell which of so many elements are at most others, where each is at most itself.
func eachOrder(many int, do func(a api.Algebra)) {
	for pairs := range 1 << (many * (many - 1)) {
		rest := pairs
		do(orderOf(many, func(x, y int) bool {
			if x == y {
				return true
			}
			is := rest&1 == 1
			rest >>= 1
			return is
		}))
	}
}

// TestPlainSmall: P23.1, P23.2 and P23.5, all ways to tell which of up to three elements are at most others, and of four, where each is at most itself.
func TestPlainSmall(t *testing.T) {
	count := map[int]int{}
	is := func(a api.Algebra) {
		if held(t, a) {
			count[len(a.Leq)]++
		}
	}
	for many := range 4 {
		for pairs := range 1 << (many * many) {
			is(orderOf(many, func(x, y int) bool { return pairs>>(x*many+y)&1 == 1 }))
		}
	}
	eachOrder(4, is)
	// rows of 1, 2, 3 and 4 elements in any order, and the two in which four are sets
	if count[0] != 0 || count[1] != 1 || count[2] != 2 || count[3] != 6 || count[4] != 24+12 {
		t.Error(count)
	}
}

// TestPlainRising: P23.1, P23.2 and P23.5, all ways to tell which of five and six elements are at most greater numbers, the least and the greatest one given.
func TestPlainRising(t *testing.T) {
	for many, want := range map[int]int{5: 3, 6: 5 + 4} {
		inner := many - 2
		count := 0
		for pairs := range 1 << (inner * (inner - 1) / 2) {
			rest := pairs
			a := orderOf(many, func(x, y int) bool {
				if x == 0 || y == many-1 || x >= y {
					return x == 0 || y == many-1 || x == y
				}
				is := rest&1 == 1
				rest >>= 1
				return is
			})
			if held(t, a) {
				count++
			}
			held(t, renamed(a, backwards(many)))
		}
		if count != want {
			t.Errorf("of %d elements: %d", many, count)
		}
	}
}

// TestPlainKnown: P23.1, P23.2 and P23.5, algebras that are known.
func TestPlainKnown(t *testing.T) {
	for name, a := range known() {
		if !held(t, a) {
			t.Errorf("%s: %s is none", name, show(a))
		}
	}
}

// TestPlainByChance: P23.1 to P23.5, the up-sets of models by chance, their elements in any order, and with one entry turned.
func TestPlainByChance(t *testing.T) {
	chance := newChance(2)
	few, spoilt := 0, 0
	for range 250 {
		m := someModel(chance, 7, 3)
		if !heldModel(t, m) {
			continue
		}
		a, _, _ := heyting.Ups(m)
		many := len(a.Leq)
		if a = renamed(a, chance.Perm(many)); many > 20 {
			continue
		}
		few++
		if !held(t, a) {
			t.Fatalf("%s is none", show(a))
		}
		for range 4 {
			x, y := chance.IntN(many), chance.IntN(many)
			b := clone(a)
			b.Leq[x][y] = !b.Leq[x][y]
			if !held(t, b) {
				spoilt++
			}
		}
	}
	if few < 150 || spoilt < 500 {
		t.Error(few, spoilt)
	}
}

// TestPlainModels: P23.4, all models of up to three worlds, as their rows may tell them, and of four with one atom, by chance up to ten worlds.
func TestPlainModels(t *testing.T) {
	for many := 1; many <= 3; many++ {
		for pairs := range 1 << (many * many) {
			for val := range 1 << many {
				m := apart(many)
				for i := range many * many {
					if pairs>>i&1 == 1 {
						m.Up[i/many] = append(m.Up[i/many], i%many)
					}
				}
				for w := range many {
					if val>>w&1 == 1 {
						m.Val[w] = []string{"p"}
					}
				}
				if !wellFormed(m) {
					refusesModel(t, m, api.ErrModel)
				} else if !heldModel(t, m) {
					t.Fatalf("%s is refused", showModel(m))
				}
			}
		}
	}
	chance := newChance(3)
	count := map[bool]int{}
	for range 600 {
		count[heldModel(t, someModel(chance, 10, 5))]++
	}
	if count[true] < 300 || count[false] < 50 {
		t.Error(count)
	}
}

// wellFormed tells whether no two worlds are each above the other one, and what is true stays true; names and numbers are right.
func wellFormed(m api.Model) bool {
	above := plainAbove(m.Up)
	for a := range m.Up {
		for b := range m.Up {
			if above[a][b] && (a != b && above[b][a] || slices.ContainsFunc(m.Val[a], func(name string) bool { return !slices.Contains(m.Val[b], name) })) {
				return false
			}
		}
	}
	return true
}

// TestPlainValue: P23.3, formulas by chance in known algebras and such by chance, with names that are missing, twice there or no element's.
func TestPlainValue(t *testing.T) {
	chance := newChance(4)
	names := byBytes()
	count := map[bool]int{}
	var all []api.Algebra
	for _, a := range known() {
		all = append(all, a)
	}
	slices.SortFunc(all, func(a, b api.Algebra) int { return slices.Compare([]byte(show(a)), []byte(show(b))) })
	for range 1500 {
		a := all[chance.IntN(len(all))]
		x := made(t, someRows(chance, 1+chance.IntN(14), 1+chance.IntN(6), names[:1+chance.IntN(5)])...)
		by := someBy(chance, len(a.Leq), names)
		switch chance.IntN(4) {
		case 0:
			by = by[:4]
		case 1:
			at := chance.IntN(5)
			switch chance.IntN(4) {
			case 0:
				by[at].Name = by[(at+1)%5].Name
			case 1:
				by = append(by, by[at])
			case 2:
				by[at].Form = noNumbers(len(a.Leq))[chance.IntN(17)]
			case 3:
				by[at].Name = "none of them"
			}
		}
		count[heldValue(t, a, x, x.Len()-1-chance.IntN(min(3, x.Len())), by)]++
	}
	if count[true] < 700 || count[false] < 200 {
		t.Error(count)
	}
}
