package rule_test

import (
	"testing"

	"dictum/api"
	"dictum/formula"
	"dictum/rule"
)

// roomCase is a rule whose premises need rows that are none yet.
type roomCase struct {
	main string
	also []string // what are rows already
	rule api.Rule
	more []string // the rows that it makes, in order
}

func roomCases() []roomCase {
	return []roomCase{
		{"(p & q) -> r", nil, api.RuleImpAnd, []string{"q -> r", "p -> (q -> r)"}},
		{"(p & q) -> r", []string{"q -> r"}, api.RuleImpAnd, []string{"p -> (q -> r)"}},
		{"(p & q) -> r", []string{"p -> (q -> r)"}, api.RuleImpAnd, nil},
		{"(p & p) -> p", nil, api.RuleImpAnd, []string{"p -> p", "p -> (p -> p)"}},
		{"((p | q) & (p & q)) -> (q | p)", nil, api.RuleImpAnd, []string{"p & q -> q | p", "p | q -> (p & q -> q | p)"}},
		{"(p & (q -> r)) -> r", nil, api.RuleImpAnd, []string{"(q -> r) -> r", "p -> ((q -> r) -> r)"}},
		{"(p | q) -> r", nil, api.RuleImpOr, []string{"p -> r", "q -> r"}},
		{"(p | q) -> r", []string{"p -> r"}, api.RuleImpOr, []string{"q -> r"}},
		{"(p | q) -> r", []string{"q -> r"}, api.RuleImpOr, []string{"p -> r"}},
		{"(p | q) -> r", []string{"q -> r", "p -> r"}, api.RuleImpOr, nil},
		{"(p | p) -> r", nil, api.RuleImpOr, []string{"p -> r"}},
		{"(p | (p & q)) -> false", nil, api.RuleImpOr, []string{"p -> false", "p & q -> false"}},
		{"(p -> q) -> r", nil, api.RuleImpImp, []string{"q -> r"}},
		{"(p -> q) -> r", []string{"q -> r"}, api.RuleImpImp, nil},
		{"(p -> q) -> q", nil, api.RuleImpImp, []string{"q -> q"}},
		{"~~p", nil, api.RuleImpImp, []string{"false -> false"}},
		{"(p -> (q -> r)) -> (q | r)", nil, api.RuleImpImp, []string{"(q -> r) -> (q | r)"}},
	}
}

// start is the table of a case, and its main's number; the goal is row 0, an atom.
func (c roomCase) start(t *testing.T) (*formula.Table, int) {
	t.Helper()
	x := formula.New()
	x.Atom("goal")
	main := read(t, x, c.main)
	for _, text := range c.also {
		read(t, x, text)
	}
	return x, main
}

// TestRowsMade: P9.2, the rows that the premises need are made, in the order that the chapter says, and not made again.
func TestRowsMade(t *testing.T) {
	for _, c := range roomCases() {
		x, main := c.start(t)
		old := x.Len()
		if _, e := rule.Premises(x, seq(0, main), c.rule, main); e != api.OK {
			t.Errorf("%s: error %d", c.main, e)
		}
		if x.Len() != old+len(c.more) {
			t.Errorf("%s: %d rows more, not %d", c.main, x.Len()-old, len(c.more))
		}
		for i, text := range c.more {
			if id := read(t, x, text); id != old+i {
				t.Errorf("%s: %s is row %d, not %d", c.main, text, id, old+i)
			}
		}
		rows := x.Rows()
		if _, e := rule.Premises(x, seq(0, main), c.rule, main); e != api.OK {
			t.Errorf("%s again: error %d", c.main, e)
		}
		same(t, x, rows)
	}
}

// TestRoom: P9.2, tables that are full, or become full on the way: with as much room as there must be the premises are answered, with less it is ErrForms, and the table is as it was.
func TestRoom(t *testing.T) {
	for _, c := range roomCases() {
		for room := range len(c.more) + 3 {
			x, main := c.start(t)
			x = filled(t, x.Rows(), api.MaxForms-room)
			s := seq(0, main)
			if room < len(c.more) {
				refuses(t, x, s, c.rule, main, api.ErrForms)
				refuses(t, x, seq(0, main, 1, x.Len()-1), c.rule, main, api.ErrForms)
				fits(t, x, s, c.rule, main, true) // that it fits hangs on no room
				continue
			}
			if _, e := rule.Premises(x, s, c.rule, main); e != api.OK {
				t.Errorf("%s with room for %d: error %d", c.main, room, e)
			}
			if want := api.MaxForms - room + len(c.more); x.Len() != want {
				t.Errorf("%s with room for %d: %d rows, not %d", c.main, room, x.Len(), want)
			}
		}
	}
}

// TestRoomGivenBack: P9.2, a table that was put back takes the rows for which it had room ahead, as if nothing had been.
func TestRoomGivenBack(t *testing.T) {
	c := roomCases()[0]
	x, main := c.start(t)
	x = filled(t, x.Rows(), api.MaxForms-1)
	refuses(t, x, seq(0, main), c.rule, main, api.ErrForms)
	if id := read(t, x, "r -> q"); id != api.MaxForms-1 {
		t.Errorf("r -> q is row %d", id)
	}
}

// TestNoRoomNeeded: P9.2, the rules whose premises are made of parts alone are answered in a full table, too.
func TestNoRoomNeeded(t *testing.T) {
	x := filled(t, shapes(), api.MaxForms)
	rows := x.Rows()
	for main := range shapes() {
		for _, k := range []api.Rule{api.RuleBot, api.RuleId, api.RuleAndL, api.RuleImpAtom, api.RuleImpBot, api.RuleImpR, api.RuleAndR, api.RuleOrL, api.RuleOrR1, api.RuleOrR2} {
			for _, s := range []api.Seq{seq(main, 0, 1, main), seq(0, 1, main), seq(main)} {
				ok, _ := rule.Fits(x, s, k, main)
				if _, e := rule.Premises(x, s, k, main); ok && e != api.OK {
					t.Errorf("rule %d of %v: error %d", k, rows[main], e)
				}
			}
		}
	}
	same(t, x, rows)
}
