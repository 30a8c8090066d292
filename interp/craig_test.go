package interp_test

import (
	"slices"
	"strconv"
	"testing"

	"dictum/api"
	"dictum/formula"
	"dictum/interp"
	"dictum/search"
)

// asksCraig is what a search says that Craig answers, and whether ErrInterp may be answered, too.
func asksCraig(x *formula.Table, a, b int) (want api.Errno, free bool) {
	y := x.Copy()
	f, e := search.Run(y, seq(b, a), api.MaxVisits)
	switch {
	case e != api.OK:
		return api.ErrBudget, false
	case !f.Proved:
		return api.ErrInterp, false
	}
	return api.OK, f.Visits > 100 || y.Len() > 400
}

// isBetween asks that a formula is an interpolant.
func isBetween(t *testing.T, x *formula.Table, a, id, b int) {
	t.Helper()
	if !proves(x, id, a) {
		t.Fatalf("%s does not prove %s", show(x, a), show(x, id))
	}
	if !proves(x, b, id) {
		t.Fatalf("%s does not prove %s", show(x, id), show(x, b))
	}
	common(t, x, a, id, b)
}

// common asks that a formula has only atoms that two others both have.
func common(t *testing.T, x *formula.Table, a, id, b int) {
	t.Helper()
	for _, name := range names(x, id) {
		if !slices.Contains(names(x, a), name) || !slices.Contains(names(x, b), name) {
			t.Fatalf("%s stands between %s and %s, but has %s", show(x, id), show(x, a), show(x, b), name)
		}
	}
}

// holdCraig is P25.1 of two formulas. It tells whether there was an answer.
func holdCraig(t *testing.T, x *formula.Table, a, b int) bool {
	t.Helper()
	want, free := asksCraig(x, a, b)
	rows := x.Rows()
	id, e := interp.Craig(x, a, b)
	if e != want && !(free && e == api.ErrInterp) {
		t.Fatalf("%s, %s: error %d, not %d", show(x, a), show(x, b), e, want)
	}
	if e != api.OK {
		if id != 0 || !slices.Equal(rows, x.Rows()) {
			t.Fatalf("%s, %s: %d beside error %d, rows %v", show(x, a), show(x, b), id, e, x.Rows())
		}
		return false
	}
	if x.Len() < len(rows) || !slices.Equal(rows, x.Rows()[:len(rows)]) {
		t.Fatalf("%s, %s: the rows became %v", show(x, a), show(x, b), x.Rows())
	}
	isBetween(t, x, a, id, b)
	return true
}

// craigs asks that Craig's answer is, up to proofs, the formula of a text.
func craigs(t *testing.T, a, b, want string) {
	t.Helper()
	x := formula.New()
	l, r := read(t, x, a), read(t, x, b)
	if !holdCraig(t, x, l, r) {
		t.Errorf("nothing between %s and %s", a, b)
		return
	}
	id, _ := interp.Craig(x, l, r)
	same(t, x, id, want)
}

// TestCraigRules: P25.1, of each rule on either side, where just one formula stands between.
func TestCraigRules(t *testing.T) {
	for _, c := range [][3]string{
		{"p & ~p", "q", "false"}, // RuleBot
		{"p", "false -> q", "true"},
		{"q & p", "q | r", "q"}, // RuleId
		{"p", "q -> q", "true"},
		{"(p -> p) & q", "(q -> r) -> r", "q"},
		{"p & (p -> q)", "r | q", "q"},               // RuleImpAtom within a side
		{"p & (q -> r)", "s & q -> r", "q -> r"},     // the atom beside the goal
		{"p & q", "(q -> r) -> r", "q"},              // the implication beside the goal
		{"(p & q -> r) & p", "q -> r", "q -> r"},     // RuleImpAnd
		{"p & q", "(q & s -> r) -> (s -> r)", "q"},   // .. beside the goal
		{"(p | q -> r) & p", "q -> r", "r"},          // RuleImpOr
		{"p & q", "(q | s -> r) -> r", "q"},          // .. beside the goal
		{"(false -> p) & q", "r | q", "q"},           // RuleImpBot
		{"p & q", "(false -> r) -> q", "q"},          // .. beside the goal
		{"p & q & r", "(s -> s) & (q & r)", "q & r"}, // RuleAndR
		{"p & q | p & r", "s -> q | r", "q | r"},     // RuleOrL
		{"p & (q & r)", "(q -> s) | (r -> u) -> s | u", "q & r"},
		{"p & ((q -> r) -> s)", "(q -> r) -> s", "(q -> r) -> s"}, // RuleImpImp
		{"(q -> r) & p", "((q -> r) -> s) -> s", "q -> r"},
		{"p & ((q -> p) -> r)", "s | r", "r"},
		{"~(p & q) & p", "~q", "~q"},
		{"(p | q) & (p -> r) & (q -> r)", "s -> r", "r"},
		{"~p & (~p -> q)", "s | q", "q"},
		{"p & ~~(q | ~q)", "s -> ~~(q | ~q)", "true"},
	} {
		craigs(t, c[0], c[1], c[2])
	}
}

// TestCraigSelf: P25.1, between a formula and itself.
func TestCraigSelf(t *testing.T) {
	t.Parallel()
	for s := 1; s <= 5; s += 2 {
		for _, f := range ofSize(s) {
			x := formula.New()
			id := put(t, x, f)
			if !holdCraig(t, x, id, id) {
				t.Fatal(show(x, id))
			}
			k, _ := interp.Craig(x, id, id)
			if !proves(x, k, id) || !proves(x, id, k) {
				t.Fatal(show(x, id), show(x, k))
			}
		}
	}
}

// TestCraigSmall: P25.1, of all small formulas.
func TestCraigSmall(t *testing.T) {
	t.Parallel()
	many := 0
	for _, s := range [][2]int{{1, 1}, {1, 3}, {3, 1}, {3, 3}, {5, 1}, {1, 5}} {
		for _, a := range trees(s[0], []string{"p", "q", "r"}) {
			for _, b := range trees(s[1], []string{"q", "r", "s"}) {
				x := formula.New()
				if holdCraig(t, x, put(t, x, a), put(t, x, b)) {
					many++
				}
			}
		}
	}
	if many < 3000 {
		t.Error(many, "answers")
	}
}

// TestCraigSome: P25.1, of formulas by chance, those first that a search proves without much being left of either side.
func TestCraigSome(t *testing.T) {
	t.Parallel()
	chance := newChance(1)
	many, between := 0, 0
	for range 5000 {
		x := formula.New()
		a := put(t, x, someTree(chance, 2+chance.IntN(10), []string{"p", "p'", "q", "r", "s"}))
		b := put(t, x, someTree(chance, 2+chance.IntN(10), []string{"q", "r", "s", "u", "v"}))
		if want, _ := asksCraig(x, a, b); want != api.OK {
			continue
		}
		holdCraig(t, x, a, b)
		many++
		if f, _ := x.Bot(); !proves(x, f, a) && !proves(x, b) {
			between++
		}
	}
	if many < 500 || between < 75 {
		t.Error(many, "answers,", between, "between what is neither false nor true")
	}
}

// TestCraigTables: P25.1, in tables with other rows, and with formulas that stand in another order.
func TestCraigTables(t *testing.T) {
	t.Parallel()
	chance := newChance(2)
	many := 0
	for range 4000 {
		x := formula.New()
		for range chance.IntN(6) {
			put(t, x, someTree(chance, 1+chance.IntN(6), []string{"p", "q", "r", "s", "u"}))
		}
		b := put(t, x, someTree(chance, 2+chance.IntN(8), []string{"q", "r", "s", "u"}))
		fill(x, chance.IntN(300))
		a := put(t, x, someTree(chance, 2+chance.IntN(8), []string{"p", "q", "r", "s"}))
		if holdCraig(t, x, a, b) {
			many++
		}
	}
	if many < 300 {
		t.Error(many, "answers")
	}
}

// numbered is an atom with a number.
func numbered(name string, i int) *tree { return leaf(name + strconv.Itoa(i)) }

func and(l, r *tree) *tree { return &tree{kind: api.KAnd, l: l, r: r} }

func or(l, r *tree) *tree { return &tree{kind: api.KOr, l: l, r: r} }

func imp(l, r *tree) *tree { return &tree{kind: api.KImp, l: l, r: r} }

// row joins formulas from the last one on.
func row(join func(l, r *tree) *tree, l ...*tree) *tree {
	f := l[len(l)-1]
	for i := len(l) - 2; i >= 0; i-- {
		f = join(l[i], f)
	}
	return f
}

// zigzag are two formulas that open one another's implications, one after the other.
func zigzag(n int) (*tree, *tree) {
	a, b := []*tree{leaf("x"), numbered("p", 0)}, []*tree{leaf("y")}
	for i := range n {
		f := imp(numbered("p", i), numbered("p", i+1))
		if i%2 == 0 {
			b = append(b, f)
		} else {
			a = append(a, f)
		}
	}
	return row(and, a...), imp(row(and, b...), numbered("p", n))
}

// nested are two formulas that open one another's implications of implications.
func nested(n int) (a, b []*tree) {
	a, b = []*tree{leaf("x")}, []*tree{leaf("y")}
	for i := range n {
		f := imp(numbered("p", i), numbered("q", i))
		g := imp(f, numbered("p", i+1))
		if i%2 == 0 {
			a, b = append(a, g), append(b, f)
		} else {
			a, b = append(a, f), append(b, g)
		}
	}
	return a, b
}

// several are two formulas of which one says that one of some pairs holds, and the other one one of some atoms.
func several(n int) (*tree, *tree) {
	var a, b []*tree
	for i := range n {
		a, b = append(a, and(numbered("x", i), numbered("p", i))), append(b, or(numbered("p", n-1-i), numbered("y", i)))
	}
	return row(or, a...), row(or, b...)
}

// all are two formulas of which one says that all of some pairs hold.
func all(n int) (*tree, *tree) {
	var a, b []*tree
	for i := range n {
		a, b = append(a, and(numbered("x", i), numbered("p", i))), append(b, or(numbered("p", n-1-i), numbered("y", i)))
	}
	return row(and, a...), row(and, b...)
}

// holes are two formulas that do not go together: n + 1 stand in n holes, and no two in one.
func holes(n int) (*tree, *tree) {
	in := func(i, hole int) *tree { return numbered("p"+strconv.Itoa(i)+"in", hole) }
	a, b := []*tree{leaf("x")}, []*tree{leaf("y")}
	for i := range n + 1 {
		var l []*tree
		for hole := range n {
			l = append(l, in(i, hole))
			for j := range i {
				b = append(b, imp(and(in(j, hole), in(i, hole)), leaf("false")))
			}
		}
		if i%2 == 0 {
			a = append(a, row(or, l...))
		} else {
			b = append(b, row(or, l...))
		}
	}
	return row(and, a...), imp(row(and, b...), leaf("false"))
}

// twice are two formulas that each say of the same pairs that one of each holds, so that a sequent is met with its formulas on either side.
func twice(n int) (*tree, *tree) {
	goal := leaf("z")
	a, b := []*tree{leaf("x")}, []*tree{leaf("y")}
	for i := range n {
		f, g, u, v := numbered("f", i), numbered("g", i), numbered("u", i), numbered("v", i)
		a = append(a, or(and(f, u), and(g, u)))
		b = append(b, or(and(g, v), and(f, v)))
		goal = imp(u, imp(v, goal))
	}
	return row(and, a...), imp(row(and, append(b, goal)...), leaf("z"))
}

// TestCraigRows: P25.1, of formulas that go on and on; what is within the limits has an answer.
func TestCraigRows(t *testing.T) {
	t.Parallel()
	for name, two := range map[string]func(n int) (*tree, *tree){
		"zigzag": zigzag, "several": several, "all": all, "holes": holes, "twice": twice,
		"nested": func(n int) (*tree, *tree) {
			a, b := nested(n)
			return row(and, a...), imp(row(and, b...), numbered("p", n))
		},
	} {
		answers := 0
		for _, n := range []int{1, 2, 3, 4, 5, 7, 9, 11, 20, 30} {
			x := formula.New()
			a, b := two(n)
			l, r := put(t, x, a), put(t, x, b)
			want, free := asksCraig(x, l, r)
			if want != api.OK {
				t.Errorf("%s of %d: error %d", name, n, want)
			}
			if free {
				break
			}
			if holdCraig(t, x, l, r) {
				answers++
			}
		}
		if answers < 2 {
			t.Error(name, answers)
		}
	}
}

// beside are implications of implications that nothing opens, but which a search tries.
func beside(n int) []*tree {
	var l []*tree
	for i := range n {
		l = append(l, imp(imp(numbered("c", i), numbered("d", i)), numbered("e", i)))
	}
	return l
}

// TestCraigOtherWay: P25.1, where the formula that the search itself tells of would need a search of too many sequents, there is another one.
func TestCraigOtherWay(t *testing.T) {
	x := formula.New()
	a, b := nested(3)
	l := put(t, x, row(and, a...))
	r := put(t, x, imp(row(and, append(beside(9), b...)...), or(numbered("p", 3), leaf("z"))))
	if _, free := asksCraig(x, l, r); free || !holdCraig(t, x, l, r) {
		t.Error(free)
	}
}

// unshown are two formulas between which just one stands, for which a search would have to enter too many sequents, since rows that are new are tried last.
func unshown(t *testing.T, x *formula.Table, more int) (int, int) {
	t.Helper()
	a := read(t, x, "(p -> q) -> x & r")
	l := append(beside(9), imp(leaf("p"), leaf("q")))
	for i := range more {
		l = append(l, numbered("z", i))
	}
	return a, put(t, x, imp(row(and, l...), or(leaf("r"), leaf("z"))))
}

// TestCraigUnshown: P25.1, within the limits there is an answer nevertheless, just up to 100 sequents and 400 rows; beyond them ErrInterp may be one.
func TestCraigUnshown(t *testing.T) {
	t.Parallel()
	for _, c := range []struct{ visits, rows int }{{0, 0}, {100, 0}, {0, 400}} {
		x := formula.New()
		a, b := unshown(t, x, 0)
		first, _ := visits(t, x, a, b)
		if c.visits > 0 {
			x = formula.New()
			a, b = unshown(t, x, c.visits-first) // each more is opened by one sequent more
		}
		if c.rows > 0 {
			_, behind := visits(t, x, a, b)
			fill(x, x.Len()+c.rows-behind)
		}
		if n, behind := visits(t, x, a, b); c.visits > 0 && n != c.visits || c.rows > 0 && behind != c.rows {
			t.Fatal(c, n, behind)
		}
		holdUnshown(t, x, a, b)
	}
	for _, c := range []struct{ more, rows int }{{95, 0}, {0, 400}} {
		x := formula.New()
		a, b := unshown(t, x, c.more)
		fill(x, c.rows)
		if n, behind := visits(t, x, a, b); n > 100 != (c.more > 0) || behind > 400 != (c.rows > 0) {
			t.Fatal(c, n, behind)
		}
		if _, free := asksCraig(x, a, b); !free {
			t.Fatal(c)
		}
		holdCraig(t, x, a, b)
	}
}

// holdUnshown is P25.1 of such formulas, but shown elsewhere.
func holdUnshown(t *testing.T, x *formula.Table, a, b int) {
	t.Helper()
	if want, free := asksCraig(x, a, b); want != api.OK || free {
		t.Fatal(want, free)
	}
	var id int
	kept(t, x, func() {
		var e api.Errno
		if id, e = interp.Craig(x, a, b); e != api.OK {
			t.Fatal(e)
		}
	})
	if proves(x, b, id) {
		t.Error("it can be shown")
	}
	same(t, x, id, "(p -> q) -> r")
	common(t, x, a, id, b)
	y := formula.New() // where its rows stand ahead of the others, the search is short
	z := read(t, y, show(x, id))
	if _, b := unshown(t, y, 0); !proves(y, b, z) {
		t.Error(show(x, id))
	}
}
