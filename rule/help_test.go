package rule_test

import (
	"math"
	"math/rand/v2"
	"slices"
	"strconv"
	"testing"

	"dictum/api"
	"dictum/formula"
	"dictum/rule"
	"dictum/syntax"
)

func atom(name string) api.Node { return api.Node{Kind: api.KAtom, Name: name} }

func bot() api.Node { return api.Node{Kind: api.KBot} }

func join(k api.Kind, l, r int) api.Node { return api.Node{Kind: k, L: l, R: r} }

func kinds() []api.Kind { return []api.Kind{api.KAnd, api.KOr, api.KImp} }

func newChance(seed uint64) *rand.Rand { return rand.New(rand.NewPCG(9, seed)) }

// rules are all numbers from below the first rule to behind the last one.
func rules() []api.Rule {
	var l []api.Rule
	for k := api.RuleBot - 2; k <= api.RuleStuck+2; k++ {
		l = append(l, k)
	}
	return l
}

// seq is the sequent of these numbers, which may be no formulas'.
func seq(goal int, left ...int) api.Seq {
	s := api.Seq{Goal: goal}
	for _, id := range left {
		s.Left[id/64] |= 1 << (id % 64)
	}
	return s
}

// leftOf are the numbers of a left side, rising.
func leftOf(s api.Seq) []int {
	var l []int
	for id := range api.MaxForms {
		if s.Left[id/64]>>(id%64)&1 == 1 {
			l = append(l, id)
		}
	}
	return l
}

// made is the table of rows that are one.
func made(t *testing.T, rows ...api.Node) *formula.Table {
	t.Helper()
	x, e := formula.From(rows)
	if x == nil || e != api.OK {
		t.Fatalf("From(%v): error %d", rows, e)
	}
	return x
}

// filled has so many rows: those that are given and, behind them, atoms that stand nowhere else.
func filled(t *testing.T, rows []api.Node, many int) *formula.Table {
	t.Helper()
	x := made(t, rows...)
	for i := 0; x.Len() < many; i++ {
		if _, e := x.Atom("fill" + strconv.Itoa(i)); e != api.OK {
			t.Fatalf("row %d: error %d", x.Len(), e)
		}
	}
	return x
}

// read is the number that a formula's text has in the table, behind what its parts get.
func read(t *testing.T, x *formula.Table, text string) int {
	t.Helper()
	id, f := syntax.Parse(x, text)
	if f.Code != api.OK {
		t.Fatalf("%q: error %d at %v", text, f.Code, f.At)
	}
	return id
}

// same holds what is in a table against rows.
func same(t *testing.T, x *formula.Table, want []api.Node) {
	t.Helper()
	if got := x.Rows(); !slices.Equal(got, want) {
		t.Errorf("the table's rows: %v, not %v", got, want)
	}
}

// applies asks for that rule and that main, and for a table that is as it was.
func applies(t *testing.T, x *formula.Table, s api.Seq, k api.Rule, main int) {
	t.Helper()
	rows := x.Rows()
	if got, id, e := rule.Apply(x, s); got != k || id != main || e != api.OK {
		t.Errorf("Apply(%v |- %d): rule %d of %d, error %d, not rule %d of %d", leftOf(s), s.Goal, got, id, e, k, main)
	}
	same(t, x, rows)
}

// chooses asks for these rules with these mains, and for a table that is as it was.
func chooses(t *testing.T, x *formula.Table, s api.Seq, k []api.Rule, mains []int) {
	t.Helper()
	rows := x.Rows()
	if got, ids, e := rule.Choices(x, s); !slices.Equal(got, k) || !slices.Equal(ids, mains) || e != api.OK {
		t.Errorf("Choices(%v |- %d): rules %v of %v, error %d, not rules %v of %v", leftOf(s), s.Goal, got, ids, e, k, mains)
	}
	same(t, x, rows)
}

// fits asks whether a rule fits, and for a table that is as it was.
func fits(t *testing.T, x *formula.Table, s api.Seq, k api.Rule, main int, want bool) {
	t.Helper()
	rows := x.Rows()
	if got, e := rule.Fits(x, s, k, main); got != want || e != api.OK {
		t.Errorf("Fits(%v |- %d, rule %d of %d): %v, error %d, not %v", leftOf(s), s.Goal, k, main, got, e, want)
	}
	same(t, x, rows)
}

// asks asks for these premises, and for these rows, and no others, behind those that the table had.
func asks(t *testing.T, x *formula.Table, s api.Seq, k api.Rule, main int, want []api.Seq, more ...api.Node) {
	t.Helper()
	rows := x.Rows()
	if got, e := rule.Premises(x, s, k, main); !slices.Equal(got, want) || e != api.OK {
		t.Errorf("Premises(%v |- %d, rule %d of %d): %v, error %d, not %v", leftOf(s), s.Goal, k, main, got, e, want)
	}
	same(t, x, append(rows, more...))
}

// refuses asks for that error of Premises beside nothing, and for a table that is as it was.
func refuses(t *testing.T, x *formula.Table, s api.Seq, k api.Rule, main int, want api.Errno) {
	t.Helper()
	rows := x.Rows()
	if got, e := rule.Premises(x, s, k, main); len(got) != 0 || e != want {
		t.Errorf("Premises(%v |- %d, rule %d of %d): %v, error %d, not error %d", leftOf(s), s.Goal, k, main, got, e, want)
	}
	if !slices.Equal(x.Rows(), rows) {
		t.Errorf("Premises(%v |- %d, rule %d of %d) has changed the table", leftOf(s), s.Goal, k, main)
	}
}

// noForms are numbers that no formula of a table with so many rows has.
func noForms(many int) []int {
	return []int{-1, -2, -64, -many - 1, math.MinInt, math.MinInt + 1, many, many + 1, 2*many + 7, api.MaxForms, api.MaxForms + 1, math.MaxInt - 1, math.MaxInt}
}

// someRows are rows of a table by chance, with up to so many atoms, each joined of some of the last near rows ahead of it.
func someRows(chance *rand.Rand, many, near, atoms int) []api.Node {
	x := formula.New()
	x.Atom("a")
	for x.Len() < many {
		part := func() int { return x.Len() - 1 - chance.IntN(min(near, x.Len())) }
		switch chance.IntN(12) {
		case 0, 1:
			x.Atom(string(rune('a' + chance.IntN(atoms))))
		case 2:
			x.Bot()
		case 3, 4, 5: // most of the rules are of implications
			x.Imp(part(), part())
		default:
			x.Put(join(kinds()[chance.IntN(3)], part(), part()))
		}
	}
	return x.Rows()
}

// someSeq is a sequent by chance of a table with so many rows, with up to most formulas on the left.
func someSeq(chance *rand.Rand, many, most int) api.Seq {
	var left []int
	for range chance.IntN(most + 1) {
		left = append(left, chance.IntN(many))
	}
	return seq(chance.IntN(many), left...)
}

// shapes are rows with formulas of each shape that the rules tell apart, of two atoms and false: 3 that are not joined, 27 that are joined of these, and implications that have one of both sorts on each side.
func shapes() []api.Node {
	rows := []api.Node{atom("p"), atom("q"), bot()}
	for _, k := range kinds() {
		for l := range 3 {
			for r := range 3 {
				rows = append(rows, join(k, l, r))
			}
		}
	}
	for l := 3; l < 30; l++ {
		rows = append(rows, join(api.KImp, l, l%3))
		rows = append(rows, join(api.KImp, l%3, l))
	}
	return rows
}
