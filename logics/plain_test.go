package logics_test

import (
	"slices"
	"testing"

	"dictum/api"
	"dictum/formula"
	"dictum/logics"
)

// A plain reading of the chapter, word by word and as slow as it is.

// plainAbove tells of two worlds whether the second one is above the first one: pairs that grow until nothing is new.
func plainAbove(rows [][]int) [][]bool {
	above := make([][]bool, len(rows))
	for a := range rows {
		above[a] = make([]bool, len(rows))
		above[a][a] = true
	}
	for grown := true; grown; {
		grown = false
		for a, row := range rows {
			for _, c := range row {
				for b := range rows {
					if above[c][b] && !above[a][b] {
						above[a][b], grown = true, true
					}
				}
			}
		}
	}
	return above
}

// plainHeight goes up all rows.
func plainHeight(above [][]bool) int {
	var from func(a int) int
	from = func(a int) int {
		most := 0
		for b := range above {
			if b != a && above[a][b] {
				most = max(most, from(b))
			}
		}
		return most + 1
	}
	most := 0
	for a := range above {
		most = max(most, from(a))
	}
	return most
}

// isSo asks something of each of so many numbers.
func isSo(many int, holds func(a int) bool) bool {
	for a := range many {
		if !holds(a) {
			return false
		}
	}
	return true
}

// someIs asks for one of so many numbers.
func someIs(many int, holds func(a int) bool) bool {
	return !isSo(many, func(a int) bool { return !holds(a) })
}

func plainFits(above [][]bool, l logic) bool {
	many := len(above)
	pairs := func(holds func(a, b, c int) bool) bool {
		return isSo(many, func(a int) bool {
			return isSo(many, func(b int) bool {
				return isSo(many, func(c int) bool { return !above[a][b] || !above[a][c] || holds(a, b, c) })
			})
		})
	}
	inRow := func(_, b, c int) bool { return above[b][c] || above[c][b] }
	switch l.k {
	case api.LogicCL:
		return isSo(many, func(a int) bool { return isSo(many, func(b int) bool { return a == b || !above[a][b] }) })
	case api.LogicLC:
		return pairs(inRow)
	case api.LogicKC:
		return pairs(func(_, b, c int) bool { return someIs(many, func(d int) bool { return above[b][d] && above[c][d] }) })
	case api.LogicBD:
		return plainHeight(above) <= l.n
	case api.LogicKP:
		return pairs(func(a, b, c int) bool {
			return above[b][c] || above[c][b] || someIs(many, func(d int) bool {
				return above[a][d] && above[d][b] && above[d][c] && isSo(many, func(e int) bool {
					return !above[d][e] || someIs(many, func(f int) bool { return above[e][f] && (above[b][f] || above[c][f]) })
				})
			})
		})
	case api.LogicSM:
		return pairs(inRow) && plainHeight(above) <= 2
	}
	panic("nothing is told of it")
}

// plainValue goes down a formula, each part as often as it stands there.
func plainValue(rows []api.Node, id, n int, by []api.Hyp) int {
	row := rows[id]
	switch row.Kind {
	case api.KAtom:
		return by[slices.IndexFunc(by, func(h api.Hyp) bool { return h.Name == row.Name })].Form
	case api.KBot:
		return 0
	}
	l, r := plainValue(rows, row.L, n, by), plainValue(rows, row.R, n, by)
	switch {
	case row.Kind == api.KAnd && l < r, row.Kind == api.KOr && l > r:
		return l
	case row.Kind == api.KImp && l <= r:
		return n
	}
	return r
}

// plainParts are the numbers of the formulas of which one is made, rising.
func plainParts(rows []api.Node, id int) []int {
	var l []int
	var down func(id int)
	down = func(id int) {
		if slices.Contains(l, id) {
			return
		}
		l = append(l, id)
		if n := rows[id]; n.Kind != api.KAtom && n.Kind != api.KBot {
			down(n.L)
			down(n.R)
		}
	}
	down(id)
	slices.Sort(l)
	return l
}

func plainNames(rows []api.Node, id int) []string {
	var l []string
	for _, part := range plainParts(rows, id) {
		if rows[part].Kind == api.KAtom {
			l = append(l, rows[part].Name)
		}
	}
	slices.Sort(l)
	return l
}

// plainDummett chooses the first atom's value, then the second one's, and so on.
func plainDummett(rows []api.Node, id int) (bool, []api.Hyp) {
	names := plainNames(rows, id)
	n := len(names) + 1
	var by []api.Hyp
	var choose func() bool
	choose = func() bool {
		if len(by) == len(names) {
			return plainValue(rows, id, n, by) == n
		}
		name := names[len(by)]
		for v := 0; v <= n; v++ {
			by = append(by, api.Hyp{Name: name, Form: v})
			if !choose() {
				return false
			}
			by = by[:len(by)-1]
		}
		return true
	}
	return choose(), by
}

func plainModel(n int, by []api.Hyp) api.Model {
	m := line(n)
	for w := range n {
		for _, h := range by {
			if n-h.Form <= w {
				m.Val[w] = append(m.Val[w], h.Name)
			}
		}
		slices.Sort(m.Val[w])
	}
	return m
}

// plainPut answers rows with one more, unless it is there, and its number.
func plainPut(rows []api.Node, n api.Node) ([]api.Node, int) {
	if at := slices.Index(rows, n); at >= 0 {
		return rows, at
	}
	return append(rows, n), len(rows)
}

// plainReduce answers the rows behind Reduce, however many there are, and the number.
func plainReduce(rows []api.Node, id int) ([]api.Node, int) {
	rows = slices.Clone(rows)
	put := func(n api.Node) int {
		var at int
		rows, at = plainPut(rows, n)
		return at
	}
	parts, all := plainParts(rows, id), -1
	for _, b := range parts {
		for _, c := range parts {
			if b >= c {
				continue
			}
			bc := put(imp(b, c))
			cb := put(imp(c, b))
			one := put(or(bc, cb))
			if all < 0 {
				all = one
			} else {
				all = put(and(all, one))
			}
		}
	}
	if all < 0 {
		return rows, id
	}
	whole := put(imp(all, id))
	return rows, whole
}

// heldFits holds Fits of all logics that have an order against the plain reading, whatever is true in the worlds, and answers which ones fit.
func heldFits(t *testing.T, m api.Model) []logic {
	t.Helper()
	above := plainAbove(m.Up)
	var l []logic
	unturned(t, m, func() {
		for _, k := range ordered() {
			want := plainFits(above, k)
			if is, e := logics.Fits(m, k.k, k.n); is != want || e != api.OK {
				t.Fatalf("Fits(%s, %v): %v, error %d, not %v", show(m), k, is, e, want)
			}
			if want {
				l = append(l, k)
			}
		}
	})
	return l
}

// heldValue holds Value against the plain reading; the table stays as it was.
func heldValue(t *testing.T, x *formula.Table, id, n int, by []api.Hyp) {
	t.Helper()
	untouched(t, x, func() {
		want := plainValue(x.Rows(), id, n, by)
		if v, e := logics.Value(x, id, n, by); v != want || e != api.OK {
			t.Fatalf("Value(%v, %d, %d, %v): %d, error %d, not %d", x.Rows(), id, n, by, v, e, want)
		}
	})
}

// heldDummett holds Dummett against the plain reading; the table stays as it was.
func heldDummett(t *testing.T, x *formula.Table, id int) bool {
	t.Helper()
	want, first := plainDummett(x.Rows(), id)
	untouched(t, x, func() {
		if is, by, e := logics.Dummett(x, id); is != want || !slices.Equal(by, first) || e != api.OK {
			t.Fatalf("Dummett(%v, %d): %v, %v, error %d, not %v, %v", x.Rows(), id, is, by, e, want, first)
		}
	})
	return want
}

func heldModel(t *testing.T, n int, by []api.Hyp) {
	t.Helper()
	before := slices.Clone(by)
	want := plainModel(n, by)
	if m, e := logics.Model(n, by); !alike(m, want) || e != api.OK {
		t.Fatalf("Model(%d, %v): %s, error %d, not %s", n, by, show(m), e, show(want))
	}
	if !slices.Equal(by, before) {
		t.Fatalf("%v became %v", before, by)
	}
}

// heldReduce holds Reduce against the plain reading, which is refused just if there are too many rows, and answers the formula.
func heldReduce(t *testing.T, x *formula.Table, id int) (int, bool) {
	t.Helper()
	rows, want := plainReduce(x.Rows(), id)
	if len(rows) > api.MaxForms {
		refusesReduce(t, x, id, api.ErrForms)
		return 0, false
	}
	if r, e := logics.Reduce(x, id); r != want || e != api.OK || !slices.Equal(x.Rows(), rows) {
		t.Fatalf("Reduce(%d): %d, error %d, not %d, in %v, not %v", id, r, e, want, x.Rows(), rows)
	}
	return want, true
}

// orders goes through all orders of so many worlds, in whichever order these are numbered: rows that tell all above.
func orders(many int, yield func(m api.Model)) {
	var pairs [][2]int
	for a := range many {
		for b := range many {
			if a != b {
				pairs = append(pairs, [2]int{a, b})
			}
		}
	}
	for number := range 1 << len(pairs) {
		m := apart(many)
		for i, p := range pairs {
			if number>>i&1 == 1 {
				m.Up[p[0]] = append(m.Up[p[0]], p[1])
			}
		}
		if isOrder(m.Up) {
			yield(m)
		}
	}
}

// isOrder tells whether rows tell all that is above, and no two worlds are above each other.
func isOrder(rows [][]int) bool {
	above := plainAbove(rows)
	for a, row := range rows {
		many := 0
		for b := range rows {
			if above[a][b] {
				many++
			}
			if a != b && above[a][b] && above[b][a] {
				return false
			}
		}
		if many != len(row)+1 {
			return false
		}
	}
	return true
}

// rising goes through all rows of so many worlds in which what is above a world has a greater number.
func rising(many int, yield func(m api.Model)) {
	for number := range 1 << (many * (many - 1) / 2) {
		m, bit := apart(many), 0
		for a := range many {
			for b := a + 1; b < many; b++ {
				if number>>bit&1 == 1 {
					m.Up[a] = append(m.Up[a], b)
				}
				bit++
			}
		}
		yield(m)
	}
}

// TestPlainFits: P24.2, all orders of up to four worlds, all rows that rise of five, and frames by chance.
func TestPlainFits(t *testing.T) {
	for many, want := range []int{0, 1, 3, 19, 219} {
		count := 0
		orders(many, func(m api.Model) {
			if many > 0 {
				heldFits(t, m)
				count++
			}
		})
		if count != want {
			t.Errorf("%d orders of %d worlds, not %d", count, many, want)
		}
	}
	rising(5, func(m api.Model) { heldFits(t, m) })
	chance := newChance(2)
	for range 3000 {
		heldFits(t, someFrame(chance, 10))
	}
}

// TestPlainKP: P24.2, all rows that rise of six worlds with a root, where KP differs from what is near it.
func TestPlainKP(t *testing.T) {
	count := map[bool]int{}
	rising(5, func(m api.Model) {
		l := heldFits(t, rooted(m))
		count[slices.Contains(l, logic{api.LogicKP, 0})]++
	})
	if count[true] < 100 || count[false] < 100 {
		t.Error(count)
	}
}

// someForms are tables by chance with few enough of these atoms.
func someForms(t *testing.T, seed uint64, many, most, atoms int, yield func(x *formula.Table)) {
	t.Helper()
	chance := newChance(seed)
	for range many {
		names := byBytes()[:1+chance.IntN(atoms)]
		yield(made(t, someRows(chance, 1+chance.IntN(most), 1+chance.IntN(8), names)...))
	}
}

// TestPlainValue: P24.3, formulas by chance with each greatest truth value.
func TestPlainValue(t *testing.T) {
	chance := newChance(3)
	someForms(t, 4, 1500, 16, 5, func(x *formula.Table) {
		n := 1 + chance.IntN(64)
		if chance.IntN(2) == 0 {
			n = 1 + chance.IntN(5)
		}
		by := someBy(chance, n, byBytes())
		for id := range x.Len() {
			heldValue(t, x, id, n, by)
		}
	})
}

// TestPlainSmall: P24.3, all formulas of up to five rows with two atoms and false ahead, by all truth values up to three.
func TestPlainSmall(t *testing.T) {
	kinds := []api.Kind{api.KAnd, api.KOr, api.KImp}
	for i := range 3 * 9 {
		for j := range 3 * 16 {
			x := made(t, atom("q"), atom("p"), bot())
			x.Put(join(kinds[i/9], i/3%3, i%3))
			last := x.Len()
			id, _ := x.Put(join(kinds[j/16], j/4%last, j%last))
			for n := 1; n <= 3; n++ {
				for p := range n + 1 {
					for q := range n + 1 {
						heldValue(t, x, id, n, []api.Hyp{{Name: "p", Form: p}, {Name: "q", Form: q}})
					}
				}
			}
			heldDummett(t, x, id)
		}
	}
}

// TestPlainDummett: P24.4, formulas by chance of up to four atoms.
func TestPlainDummett(t *testing.T) {
	count := map[bool]int{}
	someForms(t, 5, 2500, 12, 4, func(x *formula.Table) { count[heldDummett(t, x, x.Len()-1)]++ })
	if count[true] < 200 || count[false] < 1000 {
		t.Error(count)
	}
}

// TestPlainModel: P24.5, chains by chance.
func TestPlainModel(t *testing.T) {
	chance := newChance(6)
	for n := 1; n <= 64; n++ {
		for range 10 {
			heldModel(t, n, someBy(chance, n, byBytes()[chance.IntN(6):]))
		}
	}
}

// TestPlainReduce: P24.6, formulas by chance, with as much room as there may be and with little.
func TestPlainReduce(t *testing.T) {
	chance := newChance(7)
	count := map[bool]int{}
	someForms(t, 8, 1200, 24, 5, func(x *formula.Table) {
		if chance.IntN(2) == 0 {
			x = filled(t, api.MaxForms-chance.IntN(300), x.Rows()...)
		}
		_, ok := heldReduce(t, x, chance.IntN(min(x.Len(), 24)))
		count[ok]++
	})
	if count[true] < 300 || count[false] < 50 {
		t.Error(count)
	}
}
