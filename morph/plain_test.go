package morph_test

import (
	"slices"
	"testing"

	"dictum/api"
	"dictum/formula"
	"dictum/morph"
)

// A plain reading of the chapter, word by word and as slow as it is.

// plainOrder tells whether a world is at most another one: a row of pairs that grows until nothing is new.
func plainOrder(rows [][]int) [][]bool {
	above := make([][]bool, len(rows))
	for a := range rows {
		above[a] = make([]bool, len(rows))
		above[a][a] = true
	}
	for grown := true; grown; {
		grown = false
		for a, row := range rows {
			for _, c := range row {
				for b := range rows {
					if above[c][b] && !above[a][b] {
						above[a][b], grown = true, true
					}
				}
			}
		}
	}
	return above
}

// plainRows are the rows of Up that Tidy has of an order.
func plainRows(above [][]bool) [][]int {
	rows := make([][]int, len(above))
	for a := range above {
		for b := range above {
			next := a != b && above[a][b]
			for c := range above {
				if c != a && c != b && above[a][c] && above[c][b] {
					next = false
				}
			}
			if next {
				rows[a] = append(rows[a], b)
			}
		}
	}
	return rows
}

// plainAbove is the model above a world, and its worlds' numbers.
func plainAbove(m api.Model, w int) (api.Model, []int) {
	above := plainOrder(m.Up)
	var l []int
	for v := range above {
		if above[w][v] {
			l = append(l, v)
		}
	}
	order := make([][]bool, len(l))
	var part api.Model
	for i, a := range l {
		for _, b := range l {
			order[i] = append(order[i], above[a][b])
		}
		part.Val = append(part.Val, m.Val[a])
	}
	part.Up = plainRows(order)
	return part, l
}

// plainRoot is the world that all are above, or -1.
func plainRoot(m api.Model) int {
	for w, row := range plainOrder(m.Up) {
		if !slices.Contains(row, false) {
			return w
		}
	}
	return -1
}

// plainGlued is what Glue answers of models that are well-formed; no places, where it is refused.
func plainGlued(l []api.Model, atoms []string) (api.Model, []int, bool) {
	many := 1
	for i, name := range atoms {
		if !formula.Word(name) || i > 0 && name <= atoms[i-1] {
			return api.Model{}, nil, false
		}
	}
	for _, m := range l {
		root := plainRoot(m)
		if root < 0 {
			return api.Model{}, nil, false
		}
		for _, name := range atoms {
			if !slices.Contains(m.Val[root], name) {
				return api.Model{}, nil, false
			}
		}
		many += len(m.Up)
	}
	if many > api.MaxWorlds {
		return api.Model{}, nil, false
	}
	order := make([][]bool, many)
	for w := range order {
		order[w] = make([]bool, many)
		order[0][w] = true
	}
	whole := api.Model{Val: [][]string{atoms}}
	var places []int
	for _, m := range l {
		place := len(whole.Val)
		for a, row := range plainOrder(m.Up) {
			copy(order[place+a][place:], row)
			whole.Val = append(whole.Val, m.Val[a])
		}
		places = append(places, place)
	}
	whole.Up = plainRows(order)
	return whole, places, true
}

// plainBounded asks what P19.3 asks, one after the other.
func plainBounded(m, n api.Model, f []int) bool {
	in, out := plainOrder(m.Up), plainOrder(n.Up)
	for a := range in {
		if !slices.Equal(m.Val[a], n.Val[f[a]]) {
			return false
		}
		for b := range in {
			if in[a][b] && !out[f[a]][f[b]] {
				return false
			}
		}
		for c := range out {
			met := false
			for b := range in {
				met = met || in[a][b] && f[b] == c
			}
			if out[f[a]][c] && !met {
				return false
			}
		}
	}
	return true
}

// isBisimulation asks of a relation what P19.4 asks, pair by pair; it answers a pair of which that does not hold, if there is one.
func isBisimulation(m api.Model, above, holds [][]bool) (int, int, bool) {
	for a := range holds {
		for b := range holds {
			if !holds[a][b] {
				continue
			}
			fits := slices.Equal(m.Val[a], m.Val[b])
			for c := range above {
				forth, back := false, false
				for d := range above {
					forth = forth || above[b][d] && holds[c][d]
					back = back || above[a][d] && holds[d][c]
				}
				fits = fits && (!above[a][c] || forth) && (!above[b][c] || back)
			}
			if !fits {
				return a, b, false
			}
		}
	}
	return 0, 0, true
}

// plainBisimilar tells which worlds are bisimilar: of all pairs those are left out, one by one, of which the rest says that they are not.
func plainBisimilar(m api.Model) [][]bool {
	above := plainOrder(m.Up)
	holds := make([][]bool, len(above))
	for a := range holds {
		holds[a] = slices.Repeat([]bool{true}, len(above))
	}
	for {
		a, b, ok := isBisimulation(m, above, holds)
		if ok {
			return holds
		}
		holds[a][b] = false
	}
}

// plainClasses numbers the classes in the order of their least worlds.
func plainClasses(m api.Model) []int {
	var class []int
	many := 0
	for w, row := range plainBisimilar(m) {
		if least := slices.Index(row, true); least < w {
			class = append(class, class[least])
		} else {
			class = append(class, many)
			many++
		}
	}
	return class
}

// plainQuotient is the model of the classes.
func plainQuotient(m api.Model, class []int) api.Model {
	many := slices.Max(class) + 1
	order := make([][]bool, many)
	whole := api.Model{Val: make([][]string, many)}
	for c := range order {
		order[c] = make([]bool, many)
	}
	for a, row := range plainOrder(m.Up) {
		for b, is := range row {
			if is {
				order[class[a]][class[b]] = true
			}
		}
		whole.Val[class[a]] = m.Val[a]
	}
	whole.Up = plainRows(order)
	return whole
}

// plainUnravelled is the tree of the ways up from a world, each way written out, and where they end; false, if there are too many.
func plainUnravelled(m api.Model, w int) (api.Model, []int, bool) {
	next := plainRows(plainOrder(m.Up))
	ways := [][]int{{w}}
	var tree api.Model
	var ends []int
	for len(tree.Up) < len(ways) {
		way := ways[len(tree.Up)]
		end := way[len(way)-1]
		var row []int
		for _, v := range next[end] {
			row = append(row, len(ways))
			ways = append(ways, append(slices.Clone(way), v))
		}
		if len(ways) > api.MaxWorlds {
			return api.Model{}, nil, false
		}
		tree.Up = append(tree.Up, row)
		tree.Val = append(tree.Val, m.Val[end])
		ends = append(ends, end)
	}
	return tree, ends, true
}

// held holds all calls on one model against the plain reading.
func held(t *testing.T, m api.Model) {
	t.Helper()
	for w := range m.Up {
		part, l := plainAbove(m, w)
		if got, at, e := morph.Above(m, w); !alike(got, part) || !slices.Equal(at, l) || e != api.OK {
			t.Fatalf("Above(%s, %d): %s, %v, error %d, not %s, %v", show(m), w, show(got), at, e, show(part), l)
		}
		heldTree(t, m, w)
	}
	class := plainClasses(m)
	if got, e := morph.Classes(m); !slices.Equal(got, class) || e != api.OK {
		t.Fatalf("Classes(%s): %v, error %d, not %v", show(m), got, e, class)
	}
	whole := plainQuotient(m, class)
	if got, other, e := morph.Quotient(m); !alike(got, whole) || !slices.Equal(other, class) || e != api.OK {
		t.Fatalf("Quotient(%s): %s, %v, error %d, not %s, %v", show(m), show(got), other, e, show(whole), class)
	}
}

// heldTree holds Unravel against the plain reading, and tells whether there is a tree.
func heldTree(t *testing.T, m api.Model, w int) bool {
	t.Helper()
	tree, ends, ok := plainUnravelled(m, w)
	want := api.OK
	if !ok {
		want = api.ErrMorph
	}
	if got, at, e := morph.Unravel(m, w); !alike(got, tree) || !slices.Equal(at, ends) || e != want {
		t.Fatalf("Unravel(%s, %d): %s, %v, error %d, not %s, %v", show(m), w, show(got), at, e, show(tree), ends)
	}
	return ok
}

// heldGlued holds Glue against the plain reading, and tells whether there is a model.
func heldGlued(t *testing.T, l []api.Model, atoms []string) bool {
	t.Helper()
	whole, places, ok := plainGlued(l, atoms)
	want := api.OK
	if !ok {
		want = api.ErrMorph
	}
	kept := slices.Clone(atoms)
	untouched(t, l, func() {
		if got, at, e := morph.Glue(l, atoms); !alike(got, whole) || !slices.Equal(at, places) || e != want {
			t.Fatalf("Glue(%s, %q): %s, %v, error %d, not %s, %v", shown(l), atoms, show(got), at, e, show(whole), places)
		}
	})
	if !slices.Equal(kept, atoms) {
		t.Fatalf("the atoms became %q, and were %q", atoms, kept)
	}
	return ok
}

// heldBounded holds Bounded against the plain reading, and answers it.
func heldBounded(t *testing.T, m, n api.Model, f []int) bool {
	t.Helper()
	want := plainBounded(m, n, f)
	if is, e := morph.Bounded(m, n, f); is != want || e != api.OK {
		t.Fatalf("Bounded(%s, %s, %v): %v, error %d", show(m), show(n), f, is, e)
	}
	return want
}

// everyMap goes through all lists of so many numbers below a number.
func everyMap(long, below int, each func(f []int)) {
	f := make([]int, long)
	for {
		each(f)
		at := 0
		for at < long && f[at] == below-1 {
			f[at] = 0
			at++
		}
		if at == long {
			return
		}
		f[at]++
	}
}

// TestPlainWidest: P19.4, the plain reading's relation is the union of all that are right, of all relations that there are between up to three worlds.
func TestPlainWidest(t *testing.T) {
	for _, m := range models(3, "p") {
		many := len(m.Up)
		above := plainOrder(m.Up)
		union := make([][]bool, many)
		for a := range union {
			union[a] = make([]bool, many)
		}
		for which := range 1 << (many * many) {
			holds := make([][]bool, many)
			for a := range holds {
				for b := range many {
					holds[a] = append(holds[a], which>>(a*many+b)&1 == 1)
				}
			}
			if _, _, ok := isBisimulation(m, above, holds); !ok {
				continue
			}
			for a := range holds {
				for b := range holds {
					union[a][b] = union[a][b] || holds[a][b]
				}
			}
		}
		if !slices.EqualFunc(union, plainBisimilar(m), slices.Equal[[]bool]) {
			t.Fatalf("%s: %v", show(m), union)
		}
	}
}

// TestPlainSmall: P19.1, P19.4, P19.5, all models of up to three worlds with two atoms and of four with one, in both directions.
func TestPlainSmall(t *testing.T) {
	l := append(models(3, "p", "q"), models(4, "p")...)
	for _, m := range l {
		for _, one := range []api.Model{m, turned(m)} {
			untouched(t, []api.Model{one}, func() { held(t, one) })
		}
	}
	if len(l) < 600 {
		t.Errorf("%d models", len(l))
	}
}

// TestPlainByChance: P19.1, P19.4, P19.5, models of up to twelve worlds by chance, many with bisimilar worlds.
func TestPlainByChance(t *testing.T) {
	chance := newChance(1)
	fewer := map[bool]int{}
	for range 700 {
		m := someModel(chance, 12, 4)
		switch chance.IntN(3) {
		case 0:
			m = doubled(chance, someModel(chance, 6, 2))
		case 1:
			m, _, _ = morph.Quotient(m)
		}
		untouched(t, []api.Model{m}, func() { held(t, m) })
		fewer[slices.Max(plainClasses(m))+1 < len(m.Up)]++
	}
	if fewer[true] < 200 || fewer[false] < 100 {
		t.Error(fewer)
	}
}

// TestPlainTrees: P19.5, models whose trees are near the limit, on both sides of it.
func TestPlainTrees(t *testing.T) {
	chance := newChance(2)
	count := map[bool]int{}
	for range 300 {
		m := apart(33) // three worlds a level
		for w := range 30 {
			for range 1 + chance.IntN(4) {
				m.Up[w] = append(m.Up[w], w/3*3+3+chance.IntN(3))
			}
		}
		if chance.IntN(2) == 0 {
			m = turned(m)
		}
		for w := range m.Up {
			count[heldTree(t, m, w)]++
		}
	}
	if count[true] < 1000 || count[false] < 500 {
		t.Error(count)
	}
}

// TestPlainGlueSmall: P19.2, all pairs of models of up to three worlds with one atom, and of up to two with two, with lists of atoms that are right and wrong.
func TestPlainGlueSmall(t *testing.T) {
	count := map[bool]int{}
	one, two := models(3, "p"), models(2, "p", "q")
	for i, m := range one {
		count[heldGlued(t, []api.Model{m}, nil)]++
		count[heldGlued(t, []api.Model{turned(m)}, names("p"))]++
		for j, n := range one {
			if (i+j)%2 == 1 {
				n = turned(n)
			}
			for _, atoms := range []string{"", "p"} {
				count[heldGlued(t, []api.Model{m, n}, names(atoms))]++
			}
		}
	}
	for _, m := range two {
		for _, n := range two {
			for _, atoms := range []string{"", "p", "q", "p,q", "q,p", "p,p", "r", "P"} {
				count[heldGlued(t, []api.Model{turned(m), n}, names(atoms))]++
			}
		}
	}
	if count[true] < 500 || count[false] < 1000 {
		t.Error(count)
	}
}

// TestPlainGlueByChance: P19.2, up to five models by chance, and some of their roots' common atoms.
func TestPlainGlueByChance(t *testing.T) {
	chance := newChance(3)
	count := map[bool]int{}
	for range 1500 {
		var l []api.Model
		for range chance.IntN(6) {
			l = append(l, rooted(chance, 6, 4))
		}
		if len(l) > 0 && chance.IntN(6) == 0 {
			l[chance.IntN(len(l))] = someModel(chance, 4, 4)
		}
		var atoms []string
		for _, name := range byBytes() {
			if chance.IntN(4) == 0 {
				atoms = append(atoms, name)
			}
		}
		count[heldGlued(t, l, atoms)]++
	}
	if count[true] < 200 || count[false] < 200 {
		t.Error(count)
	}
}

// TestPlainBoundedSmall: P19.3, all maps between all models of up to three worlds with one atom, with worlds turned on one side.
func TestPlainBoundedSmall(t *testing.T) {
	count := map[bool]int{}
	l := models(3, "p")
	for i, m := range l {
		for j, n := range l {
			if (i+j)%2 == 1 {
				n = turned(n)
			}
			untouched(t, []api.Model{m, n}, func() {
				everyMap(len(m.Up), len(n.Up), func(f []int) { count[heldBounded(t, m, n, f)]++ })
			})
		}
	}
	if count[true] < 500 || count[false] < 10000 {
		t.Error(count)
	}
}

// TestPlainBoundedByChance: P19.3, maps that are bounded morphisms (onto quotients, into models by way of trees), and the same with one number, one row or one name turned.
func TestPlainBoundedByChance(t *testing.T) {
	chance := newChance(4)
	count := map[bool]int{}
	for range 2000 {
		m := doubled(chance, someModel(chance, 6, 2))
		n, f, _ := morph.Quotient(m)
		if chance.IntN(3) == 0 {
			n = m
			m, f, _ = morph.Unravel(n, chance.IntN(len(n.Up)))
		}
		if !heldBounded(t, m, n, f) {
			t.Fatalf("%s, %s, %v", show(m), show(n), f)
		}
		m, n = clone(m), clone(n)
		switch a := chance.IntN(len(m.Up)); chance.IntN(3) {
		case 0:
			f[a] = chance.IntN(len(n.Up))
		case 1:
			m.Up[a] = m.Up[a][:chance.IntN(len(m.Up[a])+1)]
		default:
			n.Up[f[a]] = n.Up[f[a]][:chance.IntN(len(n.Up[f[a]])+1)]
		}
		count[heldBounded(t, m, n, f)]++
	}
	if count[true] < 200 || count[false] < 200 {
		t.Error(count)
	}
}
