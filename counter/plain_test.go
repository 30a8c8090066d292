package counter_test

import (
	"math/rand/v2"
	"slices"
	"sort"
	"testing"

	"dictum/api"
	"dictum/counter"
	"dictum/formula"
)

// A plain reading of the chapter, word by word and as slow as it is.

// plainAbove tells whether a world is at most another one: a row of pairs that grows until nothing is new.
func plainAbove(rows [][]int) [][]bool {
	above := make([][]bool, len(rows))
	for a := range rows {
		above[a] = make([]bool, len(rows))
		above[a][a] = true
	}
	for grown := true; grown; {
		grown = false
		for a, row := range rows {
			for _, c := range row {
				for b := range rows {
					if above[c][b] && !above[a][b] {
						above[a][b], grown = true, true
					}
				}
			}
		}
	}
	return above
}

// plainForced tells of each row and each world whether the world forces the row.
func plainForced(rows []api.Node, above [][]bool, val [][]string) [][]bool {
	var out [][]bool
	for _, n := range rows {
		forced := make([]bool, len(above))
		for w := range above {
			switch n.Kind {
			case api.KAtom:
				forced[w] = slices.Contains(val[w], n.Name)
			case api.KAnd:
				forced[w] = out[n.L][w] && out[n.R][w]
			case api.KOr:
				forced[w] = out[n.L][w] || out[n.R][w]
			case api.KImp:
				forced[w] = true
				for v := range above {
					if above[w][v] && out[n.L][v] && !out[n.R][v] {
						forced[w] = false
					}
				}
			}
		}
		out = append(out, forced)
	}
	return out
}

// plainRefutes tells whether a world forces all of the left side, and not the goal.
func plainRefutes(forced [][]bool, w int, s api.Seq) bool {
	for _, id := range leftOf(s) {
		if !forced[id][w] {
			return false
		}
	}
	return !forced[s.Goal][w]
}

// plainOf are an order and rows of Val of some worlds alone.
func plainOf(above [][]bool, val [][]string, some []int) ([][]bool, [][]string) {
	var order [][]bool
	var names [][]string
	for _, a := range some {
		var row []bool
		for _, b := range some {
			row = append(row, above[a][b])
		}
		order, names = append(order, row), append(names, val[a])
	}
	return order, names
}

// plainTidy is the tidy model of an order, by P17.3's words.
func plainTidy(above [][]bool, val [][]string) api.Model {
	m := api.Model{Up: make([][]int, len(above)), Val: val}
	for a := range above {
		for b := range above {
			third := false
			for c := range above {
				third = third || c != a && c != b && above[a][c] && above[c][b]
			}
			if a != b && above[a][b] && !third {
				m.Up[a] = append(m.Up[a], b)
			}
		}
	}
	return clone(m)
}

// plainShrink looks at all worlds but 0 once, from the greatest number down; none is told, if world 0 does not refute the sequent.
func plainShrink(rows []api.Node, m api.Model, s api.Seq) (api.Model, []int) {
	above := plainAbove(m.Up)
	if !plainRefutes(plainForced(rows, above, m.Val), 0, s) {
		return api.Model{}, nil
	}
	left := run(0, len(m.Up))
	for w := len(m.Up) - 1; w > 0; w-- {
		var fewer []int
		for _, v := range left {
			if v != w {
				fewer = append(fewer, v)
			}
		}
		order, val := plainOf(above, m.Val, fewer)
		if plainRefutes(plainForced(rows, order, val), 0, s) {
			left = fewer
		}
	}
	order, val := plainOf(above, m.Val, left)
	return plainTidy(order, val), left
}

// plainWorld is the number of a refuted step's world.
func plainWorld(steps []api.Step, at int) int {
	if steps[at].Rule == api.RuleStuck {
		return at
	}
	return plainWorld(steps, steps[at].Kids[0])
}

// plainModel gathers worlds until none is new, and puts them in order.
func plainModel(rows []api.Node, steps []api.Step, at int) (api.Model, []int) {
	found := to(plainWorld(steps, at))
	for i := 0; i < len(found); i++ {
		for _, kid := range steps[found[i]].Kids {
			if w := plainWorld(steps, kid); !slices.Contains(found, w) {
				found = append(found, w)
			}
		}
	}
	sort.Sort(sort.Reverse(sort.IntSlice(found)))
	m := apart(len(found))
	for w, i := range found {
		for v, j := range found {
			for _, kid := range steps[i].Kids {
				if plainWorld(steps, kid) == j && !slices.Contains(m.Up[w], v) {
					m.Up[w] = append(m.Up[w], v)
				}
			}
		}
		for _, id := range leftOf(steps[i].Seq) {
			if rows[id].Kind == api.KAtom {
				m.Val[w] = append(m.Val[w], rows[id].Name)
			}
		}
		sort.Strings(m.Val[w])
	}
	return m, found
}

// heldStep holds World and Model of a step against the plain reading, and answers the model: none of one that is proved.
func heldStep(t *testing.T, x *formula.Table, steps []api.Step, at int) (api.Model, []int) {
	t.Helper()
	var m api.Model
	var l []int
	world, want := 0, api.ErrArg
	if !steps[at].Proved {
		m, l = plainModel(x.Rows(), steps, at)
		world, want = l[0], api.OK
	}
	untouched(t, x, steps, api.Model{}, func() {
		if w, e := counter.World(x, steps, at); w != world || e != want {
			t.Fatalf("World of %d of %s: %d, error %d, not %d, error %d", at, showSteps(steps), w, e, world, want)
		}
		if got, from, e := counter.Model(x, steps, at); !alike(got, m) || !slices.Equal(from, l) || e != want {
			t.Fatalf("Model of %d of %s: %s of %v, error %d, not %s of %v, error %d", at, showSteps(steps), show(got), from, e, show(m), l, want)
		}
	})
	return m, l
}

// heldSeq holds Refutes of each world and Shrink against the plain reading, and answers how many worlds are left: 0, if world 0 does not refute.
func heldSeq(t *testing.T, x *formula.Table, m api.Model, s api.Seq) int {
	t.Helper()
	forced := plainForced(x.Rows(), plainAbove(m.Up), m.Val)
	less, left := plainShrink(x.Rows(), m, s)
	want := api.OK
	if len(left) == 0 {
		want = api.ErrMorph
	}
	untouched(t, x, nil, m, func() {
		for w := range m.Up {
			if is, e := counter.Refutes(x, m, w, s); is != plainRefutes(forced, w, s) || e != api.OK {
				t.Fatalf("Refutes(%s, %d, %s): %v, error %d; rows %v", show(m), w, showSeq(s), is, e, x.Rows())
			}
		}
		if n, l, e := counter.Shrink(x, m, s); !alike(n, less) || !slices.Equal(l, left) || e != want {
			t.Fatalf("Shrink(%s, %s): %s of %v, error %d, not %s of %v, error %d; rows %v", show(m), showSeq(s), show(n), l, e, show(less), left, want, x.Rows())
		}
	})
	return len(left)
}

// TestPlainSteps: P20.1 and P20.2, steps by chance, those of the search and others that are right, each of them.
func TestPlainSteps(t *testing.T) {
	chance := newChance(1)
	var rules [api.RuleStuck + 1]int // refuted by that rule
	var large, shared, twice, later, both int
	for range 2200 {
		x, steps := someSteps(t, chance, 30)
		many := len(steps)
		if many > 0 && chance.IntN(4) == 0 {
			steps = behind(steps, find(t, x, steps[many-1].Seq, chance, 150))
		}
		for at, step := range steps {
			if (step.Proved || at+20 < len(steps)) && chance.IntN(4) > 0 {
				continue
			}
			m, l := heldStep(t, x, steps, at)
			if step.Proved {
				both++
				continue
			}
			rules[step.Rule]++
			below := make([]int, len(m.Up))
			for w, row := range m.Up {
				for _, v := range row {
					below[v]++
				}
				if len(row) < len(steps[l[w]].Kids) {
					twice++
				}
			}
			if len(m.Up) > 5 {
				large++
			}
			if slices.Max(below) > 1 {
				shared++
			}
			if at >= many {
				later++
			}
		}
	}
	for k, many := range rules {
		switch api.Rule(k) {
		case 0, api.RuleBot, api.RuleId, api.RuleOrR1, api.RuleOrR2: // by none of these
		default:
			if many < 60 {
				t.Errorf("%d steps are refuted by rule %d", many, k)
			}
		}
	}
	if large < 80 || shared < 150 || twice < 150 || later < 200 || both < 1000 {
		t.Error(large, shared, twice, later, both)
	}
}

// TestPlainOwn: P20.3 and P20.4, the models of steps by chance, with the sequents of these steps and with others.
func TestPlainOwn(t *testing.T) {
	chance := newChance(2)
	var less, same, not int
	for range 3000 {
		x, steps := someSteps(t, chance, 30)
		for at, step := range steps {
			if step.Proved || chance.IntN(8) > 0 {
				continue
			}
			m, _, e := counter.Model(x, steps, at)
			if e != api.OK || len(m.Up) > 14 {
				continue
			}
			switch left := heldSeq(t, x, m, step.Seq); {
			case left == 0:
				t.Fatalf("%s does not refute %s; rows %v", show(m), showSeq(step.Seq), x.Rows())
			case left < len(m.Up):
				less++
			case left > 1:
				same++
			}
			if heldSeq(t, x, m, someSeq(chance, x.Len(), 3)) == 0 {
				not++
			}
		}
	}
	if less < 150 || same < 3 || not < 400 {
		t.Error(less, same, not)
	}
}

// someRefuted is a sequent by chance that world 0 of a model refutes, and whether there is one: some implications that it forces on the left, and for a goal some that it would force if there were no others, and does not force, with an or between each two, which becomes a row.
func someRefuted(chance *rand.Rand, x *formula.Table, m api.Model, most int) (api.Seq, bool) {
	var yes, no []int
	lone := plainForced(x.Rows(), [][]bool{{true}}, m.Val[:1])
	for id, forced := range plainForced(x.Rows(), plainAbove(m.Up), m.Val) {
		switch row, _ := x.Node(id); {
		case row.Kind != api.KImp:
		case forced[0]:
			yes = append(yes, id)
		case lone[id][0]:
			no = append(no, id)
		}
	}
	if len(no) == 0 {
		return api.Seq{}, false
	}
	goal := no[chance.IntN(len(no))]
	for range chance.IntN(most + 1) {
		goal, _ = x.Or(no[chance.IntN(len(no))], goal)
	}
	var left []int
	for range chance.IntN(3*most + 1) {
		if len(yes) > 0 {
			left = append(left, yes[chance.IntN(len(yes))])
		}
	}
	return seq(goal, left...), true
}

// implications are rows of atoms and false, all implications of these, and all of an implication and one of these, or the other way round.
func implications() []api.Node {
	rows := []api.Node{atom("q"), atom("P"), atom("p"), bot()}
	for a := range 4 {
		for b := range 4 {
			rows = append(rows, join(api.KImp, a, b))
		}
	}
	for i := 4; i < 20; i++ {
		for b := range 4 {
			rows = append(rows, join(api.KImp, i, b), join(api.KImp, b, i))
		}
	}
	return rows
}

// TestPlainModels: P20.3 and P20.4, models and sequents by chance, most of them such that world 0 refutes them, and other worlds are needed for that.
func TestPlainModels(t *testing.T) {
	chance := newChance(3)
	var left [8]int
	for range 2500 {
		x := made(t, implications()...)
		m := someModel(chance, 10)
		s := someSeq(chance, x.Len(), 3)
		if chance.IntN(8) > 0 {
			if other, ok := someRefuted(chance, x, m, 9); ok {
				s = other
			}
		}
		left[min(heldSeq(t, x, m, s), 7)]++
	}
	if left[0] < 300 || left[1] < 150 || left[2] < 300 || left[3] < 150 || left[4] < 20 {
		t.Error(left)
	}
}

// shapes are rows with formulas of each shape: two atoms and false, 27 that are joined of these, and some that are joined of those.
func shapes() []api.Node {
	rows := []api.Node{atom("p"), atom("q"), bot()}
	for k := api.KAnd; k <= api.KImp; k++ {
		for l := range 3 {
			for r := range 3 {
				rows = append(rows, join(k, l, r))
			}
		}
	}
	for i := 3; i < 30; i++ {
		rows = append(rows, join(api.KImp, i, i%3), join(api.KOr, i, 3+(7*i+1)%27), join(api.KImp, i, 3+(7*i+2)%27))
	}
	return rows
}

// TestPlainSmall: P20.3 and P20.4, all models of up to three worlds with two atoms, world 0 below, above and among the others, sequents of each shape.
func TestPlainSmall(t *testing.T) {
	x := made(t, shapes()...)
	chance := newChance(4)
	for many := 1; many <= 3; many++ {
		for rows := range 1 << (many * many) {
			m := apart(many)
			for a := range many {
				for b := range many {
					if rows>>(a*many+b)&1 == 1 {
						m.Up[a] = append(m.Up[a], b)
					}
				}
			}
			above := plainAbove(m.Up)
			for val := range 1 << (2 * many) {
				n := clone(m)
				for w := range many {
					for i, name := range []string{"p", "q"} {
						if val>>(2*w+i)&1 == 1 {
							n.Val[w] = append(n.Val[w], name)
						}
					}
				}
				if plainFormed(above, n.Val) {
					heldSeq(t, x, n, someSeq(chance, x.Len(), 0))
					heldSeq(t, x, n, someSeq(chance, x.Len(), 2))
				}
			}
		}
	}
}

// plainFormed tells whether no two worlds are each above the other one, and what is true stays true.
func plainFormed(above [][]bool, val [][]string) bool {
	for a := range above {
		for b := range above {
			if a != b && above[a][b] && above[b][a] {
				return false
			}
			for _, name := range val[a] {
				if above[a][b] && !slices.Contains(val[b], name) {
					return false
				}
			}
		}
	}
	return true
}
