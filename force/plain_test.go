package force_test

import (
	"slices"
	"sort"
	"testing"

	"dictum/api"
	"dictum/force"
	"dictum/formula"
)

// A plain reading of the chapter, word by word and as slow as it is.

// plainAbove tells whether a world is at most another one: a row of pairs that grows until nothing is new.
func plainAbove(rows [][]int) [][]bool {
	above := make([][]bool, len(rows))
	for a := range rows {
		above[a] = make([]bool, len(rows))
		above[a][a] = true
	}
	for grown := true; grown; {
		grown = false
		for a, row := range rows {
			for _, c := range row {
				for b := range rows {
					if above[c][b] && !above[a][b] {
						above[a][b], grown = true, true
					}
				}
			}
		}
	}
	return above
}

// plainForced tells of each row and each world whether the world forces the row.
func plainForced(rows []api.Node, above [][]bool, val [][]string) [][]bool {
	var out [][]bool
	for _, n := range rows {
		forced := make([]bool, len(above))
		for w := range above {
			switch n.Kind {
			case api.KAtom:
				forced[w] = slices.Contains(val[w], n.Name)
			case api.KAnd:
				forced[w] = out[n.L][w] && out[n.R][w]
			case api.KOr:
				forced[w] = out[n.L][w] || out[n.R][w]
			case api.KImp:
				forced[w] = true
				for v := range above {
					if above[w][v] && out[n.L][v] && !out[n.R][v] {
						forced[w] = false
					}
				}
			}
		}
		out = append(out, forced)
	}
	return out
}

// plainHolds asks a sequent world by world.
func plainHolds(forced [][]bool, s api.Seq) bool {
	for w := range forced[s.Goal] {
		left := true
		for _, id := range numbers(s.Left) {
			left = left && forced[id][w]
		}
		if left && !forced[s.Goal][w] {
			return false
		}
	}
	return true
}

// plainAtoms are the names of a formula's atoms, by bytes.
func plainAtoms(rows []api.Node, id int) []string {
	var l []string
	var look func(id int)
	look = func(id int) {
		switch n := rows[id]; n.Kind {
		case api.KAtom:
			if !slices.Contains(l, n.Name) {
				l = append(l, n.Name)
			}
		case api.KAnd, api.KOr, api.KImp:
			look(n.L)
			look(n.R)
		}
	}
	look(id)
	sort.Strings(l)
	return l
}

// plainUpSets are the numbers of the sets of worlds that have with each world all worlds above it.
func plainUpSets(above [][]bool) []int {
	var l []int
	for number := range 1 << len(above) {
		is := true
		for a := range above {
			for b := range above {
				if above[a][b] && number>>a&1 == 1 && number>>b&1 == 0 {
					is = false
				}
			}
		}
		if is {
			l = append(l, number)
		}
	}
	return l
}

// plainModels are all models of a frame with these atoms, in the order that P18.3 tells: made in any order, and then sorted by their numbers.
func plainModels(m api.Model, atoms []string) []api.Model {
	tuples := [][]int{{}}
	for range atoms {
		var longer [][]int
		for _, number := range plainUpSets(plainAbove(m.Up)) {
			for _, tuple := range tuples {
				longer = append(longer, append(slices.Clone(tuple), number))
			}
		}
		tuples = longer
	}
	slices.SortFunc(tuples, slices.Compare[[]int])
	var l []api.Model
	for _, tuple := range tuples {
		one := clone(m)
		for w := range one.Val {
			one.Val[w] = nil
			for i, number := range tuple {
				if number>>w&1 == 1 {
					one.Val[w] = append(one.Val[w], atoms[i])
				}
			}
		}
		l = append(l, one)
	}
	return l
}

// plainFrame is the first model of a frame in which a formula is not valid, or none.
func plainFrame(rows []api.Node, m api.Model, id int) api.Model {
	above := plainAbove(m.Up)
	for _, one := range plainModels(m, plainAtoms(rows, id)) {
		if slices.Contains(plainForced(rows[:id+1], above, one.Val)[id], false) {
			return one
		}
	}
	return api.Model{}
}

// heldModel holds all calls on a model but Frame against the plain reading.
func heldModel(t *testing.T, x *formula.Table, m api.Model) {
	t.Helper()
	forced := plainForced(x.Rows(), plainAbove(m.Up), m.Val)
	for w := range m.Up {
		var want []int
		for id := range forced {
			if forced[id][w] {
				want = append(want, id)
			}
			if is, e := force.At(x, m, w, id); is != forced[id][w] || e != api.OK {
				t.Fatalf("At(%s, %d, %s): %v, error %d", show(m), w, text(x, id), is, e)
			}
		}
		if all, e := force.All(x, m, w); all != set(want...) || e != api.OK {
			t.Fatalf("All(%s, %d): %v, error %d, not %v; rows %v", show(m), w, numbers(all), e, want, x.Rows())
		}
	}
	for id := range forced {
		var want []int
		for w, is := range forced[id] {
			if is {
				want = append(want, w)
			}
		}
		if l, e := force.Worlds(x, m, id); !slices.Equal(l, want) || e != api.OK {
			t.Fatalf("Worlds(%s, %s): %v, error %d, not %v", show(m), text(x, id), l, e, want)
		}
		if is, e := force.Valid(x, m, id); is != (len(want) == len(m.Up)) || e != api.OK {
			t.Fatalf("Valid(%s, %s): %v, error %d", show(m), text(x, id), is, e)
		}
	}
}

// heldSeq holds Holds against the plain reading, and answers it.
func heldSeq(t *testing.T, x *formula.Table, m api.Model, s api.Seq) bool {
	t.Helper()
	want := plainHolds(plainForced(x.Rows(), plainAbove(m.Up), m.Val), s)
	if is, e := force.Holds(x, m, s); is != want || e != api.OK {
		t.Fatalf("Holds(%s, %v |- %d): %v, error %d; rows %v", show(m), numbers(s.Left), s.Goal, is, e, x.Rows())
	}
	return want
}

// heldFrame holds Frame against the plain reading, and answers it.
func heldFrame(t *testing.T, x *formula.Table, m api.Model, id int) bool {
	t.Helper()
	want := plainFrame(x.Rows(), m, id)
	if is, got, e := force.Frame(x, m, id); is != empty(want) || !alike(got, want) || e != api.OK {
		t.Fatalf("Frame(%s, %s): %v, %s, error %d, not %s", show(m), text(x, id), is, show(got), e, show(want))
	}
	return empty(want)
}

// shapes are rows with formulas of each shape: two atoms and false, 27 that are joined of these, and some that are joined of those.
func shapes() []api.Node {
	rows := []api.Node{{Kind: api.KAtom, Name: "p"}, {Kind: api.KAtom, Name: "q"}, {Kind: api.KBot}}
	for _, k := range kinds() {
		for l := range 3 {
			for r := range 3 {
				rows = append(rows, join(k, l, r))
			}
		}
	}
	for i := 3; i < 30; i++ {
		for j, k := range kinds() {
			rows = append(rows, join(k, i, i%3), join(k, i, 3+(7*i+j)%27))
		}
		rows = append(rows, join(api.KImp, i%3, i))
	}
	return rows
}

// TestPlainSmall: P18.1, all models of up to three worlds with two atoms, formulas of each shape.
func TestPlainSmall(t *testing.T) {
	x := made(t, shapes()...)
	many := 0
	for n := 1; n <= 3; n++ {
		for _, m := range frames(n) {
			for _, one := range plainModels(m, []string{"p", "q"}) {
				if n == 3 {
					one = turned(one)
				}
				untouched(t, x, one, func() { heldModel(t, x, one) })
				many++
			}
		}
	}
	if many < 250 {
		t.Errorf("%d models", many)
	}
}

// TestPlainByChance: P18.1, models of up to nine worlds and tables by chance.
func TestPlainByChance(t *testing.T) {
	chance := newChance(1)
	for range 1500 {
		x := made(t, someRows(chance, 1+chance.IntN(25), 1+chance.IntN(12), 4)...)
		m := someModel(chance, 9)
		untouched(t, x, m, func() { heldModel(t, x, m) })
	}
}

// TestPlainHolds: P18.2, sequents by chance, of which many hold and many do not.
func TestPlainHolds(t *testing.T) {
	chance := newChance(2)
	count := map[bool]int{}
	for range 6000 {
		x := made(t, someRows(chance, 3+chance.IntN(20), 1+chance.IntN(12), 4)...)
		m := someModel(chance, 7)
		var left []int
		for range chance.IntN(5) {
			left = append(left, chance.IntN(x.Len()))
		}
		s := seq(chance.IntN(x.Len()), left...)
		untouched(t, x, m, func() { count[heldSeq(t, x, m, s)]++ })
	}
	if count[true] < 1000 || count[false] < 1000 {
		t.Error(count)
	}
}

// TestPlainFrames: P18.3, all orders of up to four worlds, formulas of one and two atoms of each shape.
func TestPlainFrames(t *testing.T) {
	x := made(t, shapes()...)
	count := map[bool]int{}
	for n := 1; n <= 4; n++ {
		for i, m := range frames(n) {
			if i%2 == 1 {
				m = turned(m)
			}
			for id := range x.Len() {
				if n < 4 || (id+i)%9 == 0 {
					untouched(t, x, m, func() { count[heldFrame(t, x, m, id)]++ })
				}
			}
		}
	}
	if count[true] < 500 || count[false] < 500 {
		t.Error(count)
	}
}

// TestPlainFramesByChance: P18.3, frames of up to five worlds, whatever is true in them, formulas of up to three atoms.
func TestPlainFramesByChance(t *testing.T) {
	chance := newChance(3)
	count, atoms := map[bool]int{}, map[int]int{}
	for range 1000 {
		rows := someRows(chance, 6+chance.IntN(20), 3+chance.IntN(12), 3+chance.IntN(2))
		x, m := made(t, rows...), someModel(chance, 5)
		for id := range rows {
			names := plainAtoms(rows, id)
			if len(names) > 3 || len(m.Up) > 3 && len(names) == 3 && chance.IntN(8) > 0 {
				continue
			}
			untouched(t, x, m, func() { count[heldFrame(t, x, m, id)]++ })
			atoms[len(names)]++
		}
	}
	if count[true] < 1000 || count[false] < 1000 || atoms[0] < 200 || atoms[1] < 1000 || atoms[2] < 1000 || atoms[3] < 300 {
		t.Error(count, atoms)
	}
}
