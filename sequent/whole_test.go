package sequent_test

import (
	"testing"

	"dictum/api"
	"dictum/formula"
	"dictum/sequent"
)

// TestWhole: P8.5, by texts: how formulas are joined, by rising numbers; none, one, and the goal among them.
func TestWhole(t *testing.T) {
	for _, c := range []struct {
		s            api.Seq
		whole, curry string
	}{
		{seq(0), "p", "p"},
		{seq(3), "p | q", "p | q"},
		{seq(1, 0), "p -> q", "p -> q"},
		{seq(0, 0), "p -> p", "p -> p"},
		{seq(4, 0), "~p", "~p"},
		{seq(2, 1, 0), "p & q -> r", "p -> (q -> r)"},
		{seq(1, 2, 1, 0), "((p & q) & r) -> q", "p -> (q -> (r -> q))"},
		{seq(4, 3, 4), "((p | q) & false) -> false", "(p | q) -> (false -> false)"},
		{seq(5, 5, 0, 3, 4), "(((p & (p | q)) & false) & (p -> r)) -> (p -> r)", "p -> ((p | q) -> (false -> ((p -> r) -> (p -> r))))"},
	} {
		x := made(t, atom("p"), atom("q"), atom("r"), join(api.KOr, 0, 1), bot(), join(api.KImp, 0, 2))
		y := x.Copy()
		id, e := sequent.Whole(x, c.s)
		answers(t, "Whole: "+c.whole, id, e, read(t, x, c.whole), api.OK)
		id, e = sequent.Curry(y, c.s)
		answers(t, "Curry: "+c.curry, id, e, read(t, y, c.curry), api.OK)
	}
}

// TestWholeRows: P8.5 and R9, which rows are put, and that what is one already is not put again.
func TestWholeRows(t *testing.T) {
	rows := []api.Node{atom("p"), atom("q"), atom("r")}
	x := made(t, rows...)
	id, e := sequent.Whole(x, seq(0, 0, 1, 2))
	answers(t, "Whole", id, e, 5, api.OK)
	rows = append(rows, join(api.KAnd, 0, 1), join(api.KAnd, 3, 2), join(api.KImp, 4, 0))
	same(t, x, rows)
	id, e = sequent.Whole(x, seq(2, 0, 1))
	answers(t, "Whole", id, e, 6, api.OK)
	rows = append(rows, join(api.KImp, 3, 2))
	same(t, x, rows)
	id, e = sequent.Curry(x, seq(0, 0, 1, 2))
	answers(t, "Curry", id, e, 9, api.OK)
	rows = append(rows, join(api.KImp, 2, 0), join(api.KImp, 1, 7), join(api.KImp, 0, 8))
	same(t, x, rows)
	for _, s := range []api.Seq{seq(0, 0, 1, 2), seq(2, 0, 1), seq(7), seq(0, 2)} {
		if _, e := sequent.Whole(x, s); e != api.OK {
			t.Error(e)
		}
	}
	for _, s := range []api.Seq{seq(0, 0, 1, 2), seq(0, 1, 2), seq(9), seq(0, 2)} {
		if _, e := sequent.Curry(x, s); e != api.OK {
			t.Error(e)
		}
	}
	same(t, x, rows)
}

// making is a call that makes a formula of a sequent.
type making struct {
	name  string
	do    func(x *formula.Table, s api.Seq) (int, api.Errno)
	plain func(p *plainTable, s api.Seq) (int, api.Errno)
}

func makings() []making {
	return []making{{"Whole", sequent.Whole, (*plainTable).whole}, {"Curry", sequent.Curry, (*plainTable).curry}}
}

// sameMaking holds a call against the plain one, row for row.
func sameMaking(t *testing.T, m making, x *formula.Table, s api.Seq) api.Errno {
	t.Helper()
	p := &plainTable{x.Rows()}
	want, wantE := m.plain(p, s)
	id, e := m.do(x, s)
	answers(t, m.name, id, e, want, wantE)
	same(t, x, p.rows)
	if t.Failed() {
		t.FailNow()
	}
	return e
}

// TestWholeFull: P8.5, tables that are full, or become full on the way, are as they were behind ErrForms; with just as much room as is needed there is the formula.
func TestWholeFull(t *testing.T) {
	rows := []api.Node{atom("p"), atom("q"), join(api.KAnd, 0, 1), join(api.KImp, 2, 0), join(api.KImp, 1, 0)}
	for _, c := range []struct {
		s    api.Seq
		need [2]int // rows that Whole and Curry make
	}{
		{seq(0), [2]int{0, 0}},
		{seq(0, 1), [2]int{0, 0}},
		{seq(0, 0), [2]int{1, 1}},
		{seq(0, 0, 1), [2]int{0, 1}},
		{seq(1, 0, 1), [2]int{1, 2}},
		{seq(0, 0, 1, 2), [2]int{2, 2}},
		{seq(4, 0, 1, 2, 3, 4), [2]int{4, 5}},
		{seq(0, 1, 2, 3, 4), [2]int{4, 4}},
	} {
		for i, m := range makings() {
			for room := range c.need[i] + 3 {
				makesWithRoom(t, m, filled(t, rows, api.MaxForms-room), c.s, room >= c.need[i])
			}
		}
	}
}

// makesWithRoom asks whether there is room for what a call makes; a table without is as it was, and what was forgotten is not found.
func makesWithRoom(t *testing.T, m making, x *formula.Table, s api.Seq, enough bool) {
	t.Helper()
	before := x.Rows()
	e := sameMaking(t, m, x, s)
	if enough {
		answers(t, m.name, 0, e, 0, api.OK)
		return
	}
	answers(t, m.name, 0, e, 0, api.ErrForms)
	same(t, x, before)
	if len(before) < api.MaxForms {
		id, e := x.Atom("new")
		answers(t, "a new atom", id, e, len(before), api.OK)
	}
}

// TestWholeMany: P8.5, left sides of hundreds of formulas, with and without room for what they make.
func TestWholeMany(t *testing.T) {
	for _, m := range makings() {
		for _, many := range []int{511, 512, 513, 600, 1024} {
			left := make([]int, many)
			for i := range left {
				left[i] = i
			}
			makesWithRoom(t, m, filled(t, nil, many), seq(many-1, left...), 2*many <= api.MaxForms)
			makesWithRoom(t, m, filled(t, nil, many), seq(0), true)
		}
	}
}

// TestWholeAgainstPlain: P8.5, tables and sequents by chance, also where a table is nearly full.
func TestWholeAgainstPlain(t *testing.T) {
	chance := newChance(1)
	for i := range 2000 {
		rows := someRows(chance, 2+chance.IntN(30), 1+chance.IntN(12), 4)
		x := made(t, rows...)
		if i%20 == 0 {
			x = filled(t, rows, api.MaxForms-chance.IntN(30))
		}
		for range 6 {
			sameMaking(t, makings()[chance.IntN(2)], x, someSeq(chance, x.Len(), 6))
		}
	}
}
