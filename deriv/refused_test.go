package deriv_test

import (
	"math"
	"strings"
	"testing"

	"dictum/api"
	"dictum/deriv"
	"dictum/formula"
)

// noTables are tables that no call made.
func noTables() []*formula.Table { return []*formula.Table{nil, {}, new(formula.Table)} }

// TestNoTable: a table that no call made is ErrNil, ahead of all else that is wrong, and stays none.
func TestNoTable(t *testing.T) {
	good := []api.Step{proved(seq(0, 0), api.RuleId, 0)}
	for _, x := range noTables() {
		for _, steps := range [][]api.Step{nil, {}, {{}}, good, {stuck(seq(-1), 7)}, {proved(seq(5, 1023), 99, math.MaxInt, -1)}} {
			refusesAll(t, x, steps, api.ErrNil)
		}
		for _, text := range []string{"", "0", "0: p |- p; proved id p\n", strings.Repeat("x", api.MaxText+1)} {
			if l, e := deriv.Parse(x, text); len(l) != 0 || e != api.ErrNil {
				t.Errorf("Parse(%.30q): %v, error %d", text, l, e)
			}
		}
		if x.Len() != 0 {
			t.Error("a table that no call made has rows")
		}
		if _, e := x.Bot(); e != api.ErrNil {
			t.Errorf("a table that no call made takes a row: error %d", e)
		}
	}
}

// TestWrongSteps: P10.2, each call answers ErrSteps of no step and of one that is not right, beside zeros, wherever it stands.
func TestWrongSteps(t *testing.T) {
	good := proved(seq(0, 0), api.RuleId, 0)
	for _, many := range []int{4, 63, 64, 65, 1023, 1024} {
		x := filled(t, example(t).Rows(), many)
		rows := x.Rows()
		refusesAll(t, x, nil, api.ErrSteps)
		refusesAll(t, x, []api.Step{}, api.ErrSteps)
		refusesAll(t, x, []api.Step{{}}, api.ErrSteps)
		refusesAll(t, x, []api.Step{good, {}}, api.ErrSteps)
		refusesAll(t, x, []api.Step{{}, good}, api.ErrSteps)
		refusesAll(t, x, []api.Step{good, proved(seq(3, 0), api.RuleOrR1, 3, 1)}, api.ErrSteps)
		for _, n := range noForms(many) {
			refusesAll(t, x, []api.Step{proved(seq(n), api.RuleImpR, n)}, api.ErrSteps)
			refusesAll(t, x, []api.Step{proved(seq(n, 2), api.RuleBot, 2)}, api.ErrSteps)
			refusesAll(t, x, []api.Step{good, proved(seq(0, 0), api.RuleId, n)}, api.ErrSteps)
			refusesAll(t, x, []api.Step{good, stuck(seq(n))}, api.ErrSteps)
			refusesAll(t, x, []api.Step{good, good, proved(seq(0, 0), api.RuleId, 0, n)}, api.ErrSteps)
		}
		for left := many; left < api.MaxForms; left += 1 + left/4 {
			refusesAll(t, x, []api.Step{proved(seq(0, 0, left), api.RuleId, 0)}, api.ErrSteps)
			refusesAll(t, x, []api.Step{stuck(seq(0, left))}, api.ErrSteps)
		}
		for _, k := range noRules() {
			refusesAll(t, x, []api.Step{good, proved(seq(0, 0), k, 0)}, api.ErrSteps)
			refusesAll(t, x, []api.Step{good, refuted(seq(1), k, 0)}, api.ErrSteps)
		}
		same(t, x, rows)
	}
}

// TestEmptyTable: a table without rows has no sequent, and so no step.
func TestEmptyTable(t *testing.T) {
	x := formula.New()
	refusesAll(t, x, nil, api.ErrSteps)
	refusesAll(t, x, []api.Step{stuck(seq(0))}, api.ErrSteps)
	refusesAll(t, x, []api.Step{proved(seq(0, 0), api.RuleId, 0)}, api.ErrSteps)
	same(t, x, nil)
}

// TestLastRow: the last row's number is a formula's, on both sides, and as Main.
func TestLastRow(t *testing.T) {
	for _, many := range []int{1, 2, 63, 64, 65, 128, 1023, 1024} {
		x := filled(t, nil, many)
		last := many - 1
		right(t, x, proved(seq(last, last), api.RuleId, last))
		right(t, x, stuck(seq(last)))
		if last > 0 {
			right(t, x, stuck(seq(0, last)), proved(seq(last, 0, last), api.RuleId, last))
		}
	}
}

// TestLastRowMain: rules whose Main and whose parts are the last rows of a table that is full.
func TestLastRowMain(t *testing.T) {
	x := filled(t, nil, api.MaxForms-2)
	one, _ := x.Or(1, 2)
	two, _ := x.Imp(one, 0)
	if two != api.MaxForms-1 {
		t.Fatal(two)
	}
	right(t, x, proved(seq(0, 0, one), api.RuleId, 0), proved(seq(two, 0), api.RuleImpR, two, 0))
	// 1 -> 0 and 2 -> 0 have no room.
	wrong(t, x, stuck(seq(5, 3)), refuted(seq(5, 3, two), api.RuleImpOr, two, 0))
	right(t, x, proved(seq(two, two), api.RuleId, two))
}

// TestRoom: P10.1, a table that is full or becomes full on the way: a premise whose formula has no room is no step's sequent, but the second premise of RuleImpImp needs no room.
func TestRoom(t *testing.T) {
	x := formula.New()
	imp := readSeq(t, x, "(p -> q) -> r |- s")
	and := readSeq(t, x, "p & q -> r |- s")
	main, other := leftOf(imp)[0], leftOf(and)[0]
	second := stuck(readSeq(t, x, "r |- s"))
	rows := x.Rows()
	for _, many := range []int{len(rows), 1021, 1022, 1023, 1024} {
		y := filled(t, rows, many)
		right(t, y, second, refuted(imp, api.RuleImpImp, main, 0))
		wrong(t, y, second, stuck(imp, 0))
		wrong(t, y, second, stuck(imp))
		wrong(t, y, second, refuted(imp, api.RuleImpImp, main))
		wrong(t, y, second, refuted(imp, api.RuleImpImp, other, 0))
		wrong(t, y, second, refuted(and, api.RuleImpImp, other, 0))
		wrong(t, y, second, refuted(and, api.RuleImpAnd, other, 0))
		wrong(t, y, second, proved(imp, api.RuleImpImp, main, 0, 0))
	}
}

// TestRoomRowsThere: P10.1, in a table that is full, of which the premises' formulas are rows, all rules are asked as ever.
func TestRoomRowsThere(t *testing.T) {
	chance := newChance(3)
	many := 0
	for range 300 {
		x, steps := someSteps(t, chance, 12)
		if steps == nil {
			continue
		}
		full := filled(t, x.Rows(), api.MaxForms)
		if e := holdCheck(t, full, steps); e != api.OK {
			t.Fatalf("%s: error %d", showAll(steps), e)
		}
		less := made(t, x.Rows()[:x.Len()-1]...)
		full = filled(t, less.Rows(), api.MaxForms)
		if holdCheck(t, full, steps) != api.OK {
			many++
		}
	}
	if many < 50 {
		t.Errorf("%d lists were wrong with a row less", many)
	}
}
