package deriv_test

import (
	"math"
	"strconv"
	"strings"
	"testing"

	"dictum/api"
	"dictum/deriv"
	"dictum/formula"
	"dictum/syntax"
)

// full is a table without room, in which p is 0, q 1, false 2 and p | q 3.
func full(t *testing.T) *formula.Table {
	t.Helper()
	return filled(t, example(t).Rows(), api.MaxForms)
}

// TestParse: P10.6, the chapter's lines, with an empty table and one that has the rows.
func TestParse(t *testing.T) {
	p, q, or := atom("p"), atom("q"), join(api.KOr, 0, 1)
	text := "0: p |- p; proved id p\n1: p |- p | q; proved orr1 p | q / 0\n"
	parses(t, formula.New(), text, []api.Step{proved(seq(0, 0), api.RuleId, 0), proved(seq(2, 0), api.RuleOrR1, 2, 0)}, p, q, or)
	parses(t, example(t), text, []api.Step{proved(seq(0, 0), api.RuleId, 0), proved(seq(3, 0), api.RuleOrR1, 3, 0)})
	parses(t, full(t), text, []api.Step{proved(seq(0, 0), api.RuleId, 0), proved(seq(3, 0), api.RuleOrR1, 3, 0)})

	text = "0: |- p; refuted stuck\n1: |- q; refuted stuck\n2: |- p | q; refuted stuck / 0, 1\n"
	parses(t, formula.New(), text, []api.Step{stuck(seq(0)), stuck(seq(1)), stuck(seq(2), 0, 1)}, p, q, or)
	parses(t, full(t), text, []api.Step{stuck(seq(0)), stuck(seq(1)), stuck(seq(3), 0, 1)})
	refuses(t, formula.New(), strings.Replace(text, "0, 1", "1, 0", 1), api.ErrParse)
}

// TestParseRows: P10.6, rows are put in the order of a line's text: the left side's, the goal's, then Main's; each formula part by part as layer 4 puts it.
func TestParseRows(t *testing.T) {
	text := "0: b, a |- b; proved id b\n1: b, a, d & c |- b | ~e; proved orr1 b | ~e / 2\n"
	x := formula.New()
	refuses(t, x, text, api.ErrParse)
	text = "0: b, a, d & c |- b; proved id b\n1: b, a, d & c |- b | ~e; proved orr1 b | ~e / 0\n2: g |- g; proved id g\n"
	parses(t, x, text, []api.Step{
		proved(seq(0, 0, 1, 4), api.RuleId, 0),
		proved(seq(8, 0, 1, 4), api.RuleOrR1, 8, 0),
		proved(seq(9, 9), api.RuleId, 9),
	}, atom("b"), atom("a"), atom("d"), atom("c"), join(api.KAnd, 2, 3), atom("e"), bot(), join(api.KImp, 5, 6), join(api.KOr, 0, 7), atom("g"))
	for _, f := range goodForms() {
		x, want := formula.New(), formula.New()
		id := read(t, want, f)
		parses(t, x, "0: "+f+" |- "+f+"; proved id "+f+"\n", []api.Step{proved(seq(id, id), api.RuleId, id)}, want.Rows()...)
	}
}

// goodForms are texts that layer 4's Print writes.
func goodForms() []string {
	return []string{
		"a", "false", "true", "x'1_Y'", "Abort", "in'", strings.Repeat("n", api.MaxName), "Z9",
		"~a", "~~a", "~~~~true", "~true", "~(a & b)", "~(a | b)", "~(a -> b)", "~(true -> a)", "~~(a -> ~b)",
		"a & b", "a & b & c", "a & (b & c)", "a & b & c & d", "a & (b & c) & d", "a & b & (c & d)", "a & (b & (c & d))",
		"a | b", "a | b | c", "a | (b | c)", "a | b | (c | d)",
		"a -> b", "a -> b -> c", "(a -> b) -> c", "(a -> b) -> c -> d", "a -> (b -> c) -> d", "((a -> b) -> c) -> d",
		"a & b | c", "a | b & c", "(a | b) & c", "a & (b | c)", "a & b | c & d", "(a | b) & (c | d)",
		"a & b -> c", "a -> b & c", "(a -> b) & c", "a & (b -> c)", "a | b -> c", "a -> b | c", "(a -> b) | c", "a | (b -> c)",
		"~a & ~b", "~a | ~b", "~a -> ~b", "~(a & b) | c", "a & ~(b | c)", "~a & b -> c | ~d", "false -> a", "true -> a", "true & false", "a -> true", "~a -> true",
		"(a -> b) & (b -> a)", "((a | b) & c -> d) & (~(a -> b) | e) -> f", "a & a & a", "(a -> a) -> a -> a", "a & b -> a & b",
		"~(~(~(a & b) & b) & b)", "(((a -> b) & c -> d) & e -> f) & g",
	}
}

// badForms are texts that layer 4's Print writes of no formula, though layer 4 reads some of them.
func badForms() []string {
	return []string{
		"", " ", "a ", " a", "a  & b", "a &  b", "a& b", "a &b", "a&b", "a\t& b", "a &", "& a", "a & & b", "a &\tb",
		"(a)", "((a & b))", "(a & b)", "(a", "a)", "()", "(", ")", "( a & b)", "a & (b | c )", "a & ( b | c)", "a & (b | c", "a & b)", "a & (b)", "(a) & b", "(a & b) & c", "a & ((b & c))", "a | (b & c)", "(a & b) | c", "(a | b) | c",
		"a -> (b -> c)", "a -> (b & c)", "(a & b) -> c", "(~a) & b", "~(a)", "~(~a)", "~(true)", "~ a", "~", "~~", "a~", "a ~ b", "a & ~", "a ~b",
		"a -> false", "false -> false", "~false", "(a & b) -> false", "~~false", "a & (b -> false)", "(a -> false) & b", "~(a -> false)", "(false -> false) -> a",
		"a <-> b", "a <= b", "a => b", "a b", "a -> ", "-> a", "a ->b", "a-> b", "a->b", "a - > b", "a | | b", "a || b", "a |b", "a| b", "|", "a |",
		"¬a", "a ∧ b", "a ∨ b", "a → b", "⊤", "⊥", "a ↔ b",
		"let", "fun", "in", "case", "of", "abort", "fst", "snd", "inl", "inr", "TRUE ", "1", "1a", "_a", "'a", "a.b", "a:b", "é", "aé", "a\x00", "\xff", "a # b", "#", "a-b", "a,b", strings.Repeat("n", api.MaxName+1),
		"true false", "~true & ", "(a -> b) -> ", "[a]", "{a}", "a = b", "a / b", "a/b", "a;", "a; b", "a: b",
	}
}

// lines are lines that have a formula at each place where one may stand, with an atom that full does not have.
func lines(f string) []string {
	return []string{
		"0: " + f + " |- new; proved id p\n",
		"0: p, " + f + " |- new; proved id p\n",
		"0: " + f + ", new |- p; proved id p\n",
		"0: |- " + f + "; proved id new\n",
		"0: |- new; proved id " + f + "\n",
		"0: new |- q; refuted orr2 " + f + " / 5\n",
		"0: new |- " + f + "; refuted stuck / 0, 0\n",
	}
}

// TestParseForms: P10.6, a formula at each place of a line: with what Print writes the line is one, for which there is no room; else it is none.
func TestParseForms(t *testing.T) {
	x := full(t)
	for _, f := range goodForms() {
		for _, line := range lines(f) {
			refuses(t, x, line, api.ErrForms)
		}
	}
	for _, f := range badForms() {
		for _, line := range lines(f) {
			refuses(t, x, line, api.ErrParse)
			refuses(t, formula.New(), line, api.ErrParse)
		}
	}
}

// goodLines are lines that Print writes of a step, right or not, with the number 0; each has an atom that full does not have.
func goodLines() []string {
	l := []string{
		"0: |- new; proved stuck",
		"0: |- new; refuted stuck",
		"0: |- new; refuted stuck / 0",
		"0: |- new; proved stuck / 7, 7, 0, 1000000000, 999999999999",
		"0: |- new; refuted id p / " + strconv.Itoa(math.MaxInt),
		"0: q, p |- new; proved id q", // the order is this table's fault, which is told behind the room
		"0: p, q, false, p | q, new |- new; proved id new",
		"0: new, a, b, c, c & d, ~e |- new; proved id new",
		"0: false, ~new |- p; proved id p",
		"0: false, true, new |- p; proved id p",
		"0: a & b, b & a, c & a |- p; proved id p",
		"0: a & b, d, c & a |- c; proved id p / 1, 2",
		"0: new & p |- new & p; proved id new & p",
	}
	for k := api.RuleBot; k < api.RuleStuck; k++ {
		l = append(l, "0: |- new; proved "+deriv.Name(k)+" p", "0: |- new; refuted "+deriv.Name(k)+" p", "0: |- p; proved "+deriv.Name(k)+" new / 3")
	}
	return l
}

// badLines are lines that Print writes of no step with the number 0.
func badLines() []string {
	l := []string{
		"", " ", "0", "0:", "0: ", "0: |- ", "0: |- new", "0: |- new;", "0: |- new; ", "0: |- new; proved", "0: |- new; proved ", "0: |- new; proved id", "0: |- new; proved id ", "0: new", "|- new; refuted stuck",
		"0: |- new; refuted stuck ", " 0: |- new; refuted stuck", "0: |- new; refuted stuck\r", "0: |- new; refuted stuck;", "0: |- new; refuted stuck 0", "0: |- new; refuted stuck p", "0: |- new; proved stuck new", "0: |- new; refuted stuck; refuted stuck",
		"0: |- new; refuted", "0: |- new; stuck", "0: |- new; Refuted stuck", "0: |- new; refute stuck", "0: |- new; refutedstuck", "0: |- new; refuted  stuck", "0: |- new; disproved id p", "0: |- new; proven id p", "0: |- new;  proved id p", "0: |- new; true id p", "0: |- new; proved proved id p", "0: |- new;  stuck", "0: |- new; proved; id p",
		"0: |- new; proved  p", "0: |- new; proved p", "0: |- new; proved ID p", "0: |- new; proved Id p", "0: |- new; proved i p", "0: |- new; proved idp", "0: |- new; proved id  p", "0: |- new; proved id: p", "0: |- new; proved 2 p", "0: |- new; proved orr3 p", "0: |- new; proved orr p", "0: |- new; proved impimp", "0: |- new; proved cut p", "0: |- new; proved - p", "0: |- new; proved bot", "0: |- new; proved id p q", "0: |- new; proved id p, q",
		"1: |- new; refuted stuck", "00: |- new; refuted stuck", "+0: |- new; refuted stuck", "-0: |- new; refuted stuck", "-1: |- new; refuted stuck", ": |- new; refuted stuck", "0 : |- new; refuted stuck", "0:|- new; refuted stuck", "0:  |- new; refuted stuck", "0; |- new; refuted stuck", "x: |- new; refuted stuck", "0: 0: |- new; refuted stuck", "10: |- new; refuted stuck", "0.0: |- new; refuted stuck", "0x0: |- new; refuted stuck",
		"0: new; refuted stuck", "0: |-new; refuted stuck", "0: |-  new; refuted stuck", "0: |- new ; refuted stuck", "0: |- new;refuted stuck", "0: |- new: refuted stuck", "0: |- new, refuted stuck", "0: |- new refuted stuck", "0: - new; refuted stuck", "0: | - new; refuted stuck", "0: ⊢ new; refuted stuck", "0: |- |- new; refuted stuck", "0: |- new |- new; refuted stuck", "0: |- p, new; refuted stuck", "0: p => new; refuted stuck",
		"0:  p |- new; refuted stuck", "0: p|- new; refuted stuck", "0: p  |- new; refuted stuck", "0: p, |- new; refuted stuck", "0: p,  |- new; refuted stuck", "0: , p |- new; refuted stuck", "0: , |- new; refuted stuck", "0: p,q |- new; refuted stuck", "0: p , q |- new; refuted stuck", "0: p,  q |- new; refuted stuck", "0: p, , q |- new; refuted stuck", "0: p; q |- new; refuted stuck", "0: p q |- new; refuted stuck",
		// No table has these on the left in this order: like ones stand once, and parts have lesser numbers.
		"0: p, p |- new; refuted stuck", "0: new, p, new |- p; refuted stuck", "0: p & q, q |- new; refuted stuck", "0: p & q, p |- new; refuted stuck", "0: new & p, a, new |- q; refuted stuck", "0: ~new, false |- p; refuted stuck", "0: true, false |- new; refuted stuck", "0: ~~p, a, ~p |- new; refuted stuck", "0: (a -> b) & c, a -> b |- new; refuted stuck", "0: a, b, c, (a -> b) | d, d |- p; refuted stuck", "0: a & b, a & b |- p; refuted stuck", "0: (a -> b & ~c) | d, e, f, false |- p; refuted stuck",
	}
	for _, kids := range []string{" /", " / ", "/ 1", " /1", "  / 1", " /  1", " / 1 ", " / 1,", " / 1, ", " / , 1", " / ,", " / 1,2", " / 1 , 2", " / 1,  2", " / 1 2", " / 1 / 2", " / 1, 2 / 3", " / / 1", " / -1", " / -0", " / +1", " / 00", " / 01", " / 1, 02", " / x", " / 1x", " / 0x1", " / 1_0", " / 1.0", " / 1e3", " / 9223372036854775808", " / 99999999999999999999999999", " / 1; 2", " / ²", ", 1", " 1", " ; 1", " // 1", " / p"} {
		l = append(l, "0: |- new; refuted stuck"+kids, "0: |- new; proved id p"+kids, "0: |- p; proved id new"+kids)
	}
	return l
}

// TestParseLines: P10.6, lines of steps, right or not, for which there is no room; and lines of none, in a table without room and in one with.
func TestParseLines(t *testing.T) {
	x := full(t)
	for _, line := range goodLines() {
		refuses(t, x, line+"\n", api.ErrForms)
	}
	for _, line := range badLines() {
		refuses(t, x, line+"\n", api.ErrParse)
		refuses(t, formula.New(), line+"\n", api.ErrParse)
	}
}

// TestParseEnds: P10.6, each line is ended by a byte 10, and nothing else stands in the text.
func TestParseEnds(t *testing.T) {
	line := "0: |- p; refuted stuck"
	want := []api.Step{stuck(seq(0))}
	parses(t, formula.New(), line+"\n", want, atom("p"))
	for _, text := range []string{"", "\n", line, line + "\r\n", line + "\n\n", "\n" + line + "\n", line + "\n ", line + "\n\x00", line + "\r", line + " \n", line + "\n1: |- q; refuted stuck", line + "1: |- q; refuted stuck\n", line + "\n\n1: |- q; refuted stuck\n", line + "\n1: |- q; refuted stuck\r\n", line + "\n0: |- q; refuted stuck\n", line + "\n2: |- q; refuted stuck\n", line + "\n01: |- q; refuted stuck\n", line + "\n#\n", "# x\n" + line + "\n"} {
		refuses(t, formula.New(), text, api.ErrParse)
		refuses(t, example(t), text, api.ErrParse)
	}
	// A line without its end is none, whatever room there is.
	x := full(t)
	refuses(t, x, "0: |- new; refuted stuck", api.ErrParse)
	refuses(t, x, line+"\n1: |- new; refuted stuck", api.ErrParse)
	refuses(t, x, "0: |- new; refuted stuck\n"+line, api.ErrForms)
}

// TestParseByLines: P10.6, the first line with which something is wrong tells what; whether the steps are right is asked behind the last one.
func TestParseByLines(t *testing.T) {
	good, none, room, not, turned := "|- p; refuted stuck", "|- p; refuted", "|- new; refuted stuck", "|- p; proved id p", "q, p |- p; proved id p"
	text := func(l ...string) string {
		s := ""
		for i, line := range l {
			s += strconv.Itoa(i) + ": " + line + "\n"
		}
		return s
	}
	x := full(t)
	parses(t, x, text(good), []api.Step{stuck(seq(0))})
	parses(t, x, text(good, good), []api.Step{stuck(seq(0)), stuck(seq(0))})
	for _, c := range []struct {
		text string
		want api.Errno
	}{
		{text(none), api.ErrParse},
		{text(room), api.ErrForms},
		{text(not), api.ErrParse},
		{text(turned), api.ErrParse},
		{text(good, not), api.ErrParse},
		{text(not, good), api.ErrParse},
		{text(good, room), api.ErrForms},
		{text(good, none, room), api.ErrParse},
		{text(good, room, none), api.ErrForms},
		{text(not, room), api.ErrForms},
		{text(not, good, good, room), api.ErrForms},
		{text(room, not), api.ErrForms},
		{text(turned, room), api.ErrParse},
		{text(room, turned), api.ErrForms},
		{text(not, none, room), api.ErrParse},
		{text(good, turned), api.ErrParse},
	} {
		refuses(t, x, c.text, c.want)
	}
}

// TestParseOrder: P10.6, the left side's formulas stand by the numbers that they have in the table then, also those that earlier lines put, or the same line.
func TestParseOrder(t *testing.T) {
	pq, qp := "0: p, q |- p; proved id p\n", "0: q, p |- p; proved id p\n"
	p, q := atom("p"), atom("q")
	parses(t, formula.New(), pq, []api.Step{proved(seq(0, 0, 1), api.RuleId, 0)}, p, q)
	parses(t, formula.New(), qp, []api.Step{proved(seq(1, 0, 1), api.RuleId, 1)}, q, p)
	parses(t, made(t, p, q), pq, []api.Step{proved(seq(0, 0, 1), api.RuleId, 0)})
	refuses(t, made(t, p, q), qp, api.ErrParse)
	refuses(t, made(t, q, p), pq, api.ErrParse)
	parses(t, made(t, q), qp, []api.Step{proved(seq(1, 0, 1), api.RuleId, 1)}, p)
	refuses(t, made(t, q), pq, api.ErrParse)
	refuses(t, formula.New(), pq+"1: q, p |- p; proved id p\n", api.ErrParse)
	refuses(t, formula.New(), "0: |- q; refuted stuck\n1: p, q |- p; proved id p\n", api.ErrParse)
	parses(t, formula.New(), "0: |- q; refuted stuck\n1: q, p |- p; proved id p\n", []api.Step{stuck(seq(0)), proved(seq(1, 0, 1), api.RuleId, 1)}, q, p)
	// A formula that stands in one ahead of it has a lesser number by that alone.
	refuses(t, formula.New(), "0: a & p, q & p, q |- q; proved id q\n", api.ErrParse)
}

// TestParseRoom: P10.6, as much room as the lines need, and one row less.
func TestParseRoom(t *testing.T) {
	text := "0: a |- a; proved id a\n1: a |- a | ~b; proved orr1 a | ~b / 0\n2: |- c; refuted stuck\n"
	const need = 6
	for _, many := range []int{api.MaxForms - need, api.MaxForms - need - 1, 5} {
		x := filled(t, nil, many)
		n := many
		parses(t, x, text, []api.Step{
			proved(seq(n, n), api.RuleId, n),
			proved(seq(n+4, n), api.RuleOrR1, n+4, 0),
			stuck(seq(n + 5)),
		}, atom("a"), atom("b"), bot(), join(api.KImp, n+1, n+2), join(api.KOr, n, n+3), atom("c"))
	}
	for less := range need {
		refuses(t, filled(t, nil, api.MaxForms-less), text, api.ErrForms)
	}
	// What has no room is told, though what would be made of row 0 in its place is a row.
	x := formula.New()
	for _, f := range []string{"~p & p", "~~p | p", "(p -> p) -> p", "true -> p", "p & p & p"} {
		read(t, x, f)
	}
	x = filled(t, x.Rows(), api.MaxForms)
	for _, f := range []string{"~new", "~~new", "new & p", "p & new", "~new & p", "p | new", "~~new | p", "new -> p", "p -> new", "(new -> p) -> p", "(p -> new) -> p", "new & p & p", "p & p & new", "true -> new", "~(new & p)"} {
		refuses(t, x, "0: |- "+f+"; proved id p\n", api.ErrForms)
		refuses(t, x, "0: "+f+" |- p; proved id p\n", api.ErrForms)
		refuses(t, x, "0: p |- p; proved id "+f+"\n", api.ErrForms)
	}
	// Main's formulas need room, too.
	x = filled(t, []api.Node{atom("a")}, api.MaxForms-1)
	refuses(t, x, "0: a |- a; proved id b\n", api.ErrParse)
	refuses(t, x, "0: a |- a; proved id b & a\n", api.ErrForms)
	refuses(t, full(t), "0: p |- p; proved id b\n", api.ErrForms)
}

// TestParseMostRows: P10.6, a line with as many formulas as a table has room for, and with one more: no table lets Print write that.
func TestParseMostRows(t *testing.T) {
	atoms := func(many int) string {
		var l []string
		for i := range many {
			l = append(l, "a"+strconv.Itoa(i))
		}
		return "0: " + strings.Join(l, ", ") + " |- a7; proved id a7\n"
	}
	nots := func(many int) string {
		f := strings.Repeat("~", many) + "p"
		return "0: " + f + " |- " + f + "; proved id " + f + "\n"
	}
	deep := func(many int) string {
		f := strings.Repeat("(", many-1) + "p -> p" + strings.Repeat(") -> p", many-1)
		return "0: " + f + " |- " + f + "; proved id " + f + "\n"
	}
	for _, c := range []struct {
		text func(many int) string
		most int
	}{{atoms, 1024}, {nots, 1022}, {deep, 1023}} {
		x := formula.New()
		if l, e := deriv.Parse(x, c.text(c.most)); len(l) != 1 || e != api.OK || x.Len() != api.MaxForms {
			t.Errorf("%.30q: %d steps, error %d, %d rows", c.text(c.most), len(l), e, x.Len())
		}
		other := made(t, atom("other"))
		refuses(t, other, c.text(c.most), api.ErrForms)
		for _, x := range []*formula.Table{formula.New(), other, full(t)} {
			refuses(t, x, c.text(c.most+1), api.ErrParse)
			refuses(t, x, c.text(c.most+2), api.ErrParse)
			refuses(t, x, c.text(2*c.most), api.ErrParse)
		}
	}
}

// TestParseDeep: P10.6, texts that are nested as deep as a text may be are no lines, and are told without trouble.
func TestParseDeep(t *testing.T) {
	x := full(t)
	for _, f := range []string{"(", "~", "~(", "p -> ", "p & (", "p -> (", "(p -> ", "p & ", "p | "} {
		for _, size := range []int{1000, 60000} {
			s := strings.Repeat(f, size/len(f))
			for _, end := range []string{"", "p", "p" + strings.Repeat(")", strings.Count(s, "("))} {
				if text := "0: |- " + s + end + "; refuted stuck\n"; len(text) <= api.MaxText {
					_, e := deriv.Parse(x, text)
					if e != api.ErrParse && (e != api.ErrForms || size > 1000) {
						t.Errorf("%.30q.. of %d bytes: error %d", text, len(text), e)
					}
				}
			}
		}
	}
	if x.Len() != api.MaxForms {
		t.Error("the table has changed")
	}
}

// TestParseMany: P10.6, formulas and left sides with more tokens than layers 4 and 8 read: Print writes them, so they are lines.
func TestParseMany(t *testing.T) {
	x := formula.New()
	p := read(t, x, "p")
	long := p
	for range 600 {
		long, _ = x.And(long, p)
	}
	var left []int
	for i := range 400 {
		id, _ := x.Atom("a" + strconv.Itoa(i))
		left = append(left, id)
	}
	steps := []api.Step{
		proved(seq(long, long), api.RuleId, long),
		proved(seq(p, append(left, p)...), api.RuleId, p),
		proved(seq(p, append(left, p, long)...), api.RuleId, p),
	}
	text, e := deriv.Print(x, steps)
	if e != api.OK || syntax.Count(text) <= 3*api.MaxFormula {
		t.Fatalf("%d tokens, error %d", syntax.Count(text), e)
	}
	parses(t, x, text, steps)
	y := formula.New()
	if l, e := deriv.Parse(y, text); len(l) != 3 || e != api.OK || y.Len() != x.Len() {
		t.Errorf("%d steps, error %d, %d rows", len(l), e, y.Len())
	}
	// The same with shared parts, of which few rows are made.
	z, more := doubling(t, 11)
	text, e = deriv.Print(z, more)
	if e != api.OK {
		t.Fatal(e)
	}
	parses(t, formula.New(), text, more, z.Rows()...)
	// More parentheses than may be open at once, one behind the other.
	w, _ := doubling(t, 13)
	one := []api.Step{proved(seq(12, 12), api.RuleId, 12)}
	text, e = deriv.Print(w, one)
	if e != api.OK || strings.Count(text, "(") < 2*api.MaxForms {
		t.Fatal(e, len(text))
	}
	parses(t, formula.New(), text, one, w.Rows()...)
}

// TestParseLong: P10.6, a text of just MaxText bytes is read, one of more is ErrLong ahead of all but ErrNil.
func TestParseLong(t *testing.T) {
	x, steps := justLong(t, api.MaxText)
	text, e := deriv.Print(x, steps)
	if len(text) != api.MaxText || e != api.OK {
		t.Fatal(len(text), e)
	}
	parses(t, x, text, steps)
	for _, more := range []string{"\n", "x", strings.Repeat("y", 1000)} {
		refuses(t, x, text+more, api.ErrLong)
		refuses(t, x, more+text, api.ErrLong)
	}
	refuses(t, x, strings.Repeat("x", api.MaxText), api.ErrParse)
	refuses(t, x, strings.Repeat("x", api.MaxText+1), api.ErrLong)
	refuses(t, full(t), "0: |- new; refuted stuck\n"+strings.Repeat("\n", api.MaxText), api.ErrLong)
	refuses(t, x, text[:api.MaxText-1], api.ErrParse)
	refuses(t, x, text[:api.MaxText-1]+"x", api.ErrParse)
}

// TestParseStuckMain: P10.6, the Main of RuleStuck, which is not written, is 0.
func TestParseStuckMain(t *testing.T) {
	parses(t, example(t), "0: |- q; refuted stuck\n", []api.Step{stuck(seq(1))})
	refuses(t, example(t), "0: |- q; proved stuck\n", api.ErrParse)
	refuses(t, example(t), "0: |- p & q; refuted stuck\n", api.ErrParse)
}

// TestParseOwn: R3, the steps' kids are lists of their own.
func TestParseOwn(t *testing.T) {
	text := "0: |- p; refuted stuck\n1: |- p | p; refuted stuck / 0, 0\n2: |- p | p; refuted stuck / 0, 0\n"
	l, e := deriv.Parse(formula.New(), text)
	if len(l) != 3 || e != api.OK {
		t.Fatal(l, e)
	}
	l[1].Kids = append(l[1].Kids[:1], 9)
	if l[2].Kids[0] != 0 || l[2].Kids[1] != 0 {
		t.Error("the kids of two steps are one list")
	}
}
