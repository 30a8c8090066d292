package deriv_test

import (
	"strconv"
	"strings"
	"testing"

	"dictum/api"
	"dictum/deriv"
	"dictum/formula"
	"dictum/sequent"
	"dictum/syntax"
)

// plainLine is P10.6's line of a step, whose sequent and Main are of the table; ErrLong, if a part of it alone is too long.
func plainLine(x *formula.Table, number int, step api.Step) (string, api.Errno) {
	s, e := sequent.Print(x, step.Seq)
	parts := []string{"refuted"}
	if step.Proved {
		parts[0] = "proved"
	}
	parts = append(parts, deriv.Name(step.Rule))
	if step.Rule != api.RuleStuck {
		main, other := syntax.Print(x, step.Main)
		parts, e = append(parts, main), max(e, other)
	}
	line := strconv.Itoa(number) + ": " + s + "; " + strings.Join(parts, " ")
	sign := " / "
	for _, kid := range step.Kids {
		line, sign = line+sign+strconv.Itoa(kid), ", "
	}
	return line + "\n", e
}

// plainPrint is P10.6's Print of right steps.
func plainPrint(x *formula.Table, steps []api.Step) (string, api.Errno) {
	var out strings.Builder
	for i, step := range steps {
		line, e := plainLine(x, i, step)
		if e != api.OK || out.Len()+len(line) > api.MaxText {
			return "", api.ErrLong
		}
		out.WriteString(line)
	}
	return out.String(), api.OK
}

// printsPlain holds Print against the plain reading.
func printsPlain(t *testing.T, x *formula.Table, steps []api.Step) {
	t.Helper()
	want, e := plainPrint(x, steps)
	if e != api.OK {
		tooLong(t, x, steps...)
		return
	}
	prints(t, x, want, steps...)
}

// TestPrint: P10.6, a line of each rule, proved and refuted, with none, one and more kids.
func TestPrint(t *testing.T) {
	for _, c := range []struct{ text, want string }{
		{"|- p | ~p", "0: |- p; refuted stuck\n1: p |- false; refuted stuck\n2: |- ~p; refuted impr ~p / 1\n3: |- p | ~p; refuted stuck / 0, 2\n"},
		{"false |- p", "0: false |- p; proved bot false\n"},
		{"p & q |- q & p", "0: p, q |- q; proved id q\n1: p, q |- p; proved id p\n2: p, q |- q & p; proved andr q & p / 0, 1\n3: p & q |- q & p; proved andl p & q / 2\n"},
		{"p | q |- q | p", "0: p |- q; refuted stuck\n1: p |- p; proved id p\n2: p |- q | p; proved orr2 q | p / 1\n3: q |- q; proved id q\n4: q |- q | p; proved orr1 q | p / 3\n5: p | q |- q | p; proved orl p | q / 2, 4\n"},
		{"p, p -> false -> q |- q", "0: p |- q; refuted stuck\n1: p, false -> q |- q; refuted impbot false -> q / 0\n2: p, p -> false -> q |- q; refuted impatom p -> false -> q / 1\n"},
		{"p & q -> r |- s", "0: p -> q -> r |- s; refuted stuck\n1: p & q -> r |- s; refuted impand p & q -> r / 0\n"},
		{"p | q -> r |- s", "0: p -> r, q -> r |- s; refuted stuck\n1: p | q -> r |- s; refuted impor p | q -> r / 0\n"},
		{"(p -> p) -> q |- q", "0: p, p -> q |- p; proved id p\n1: p -> q |- p -> p; proved impr p -> p / 0\n2: q |- q; proved id q\n3: (p -> p) -> q |- q; proved impimp (p -> p) -> q / 1, 2\n"},
		{"(p -> q) -> r |- p | q", "0: p, q -> r |- q; refuted stuck\n1: q -> r |- p -> q; refuted impr p -> q / 0\n2: (p -> q) -> r |- p; refuted stuck / 1\n3: (p -> q) -> r |- q; refuted stuck / 1\n4: (p -> q) -> r |- p | q; refuted stuck / 2, 3, 1\n"},
		{"(p -> p) -> q |- r", "0: p, p -> q |- p; proved id p\n1: p -> q |- p -> p; proved impr p -> p / 0\n2: q |- r; refuted stuck\n3: (p -> p) -> q |- r; refuted impimp (p -> p) -> q / 2\n"},
	} {
		x := formula.New()
		steps := find(t, x, readSeq(t, x, c.text), nil, 20)
		prints(t, x, c.want, steps...)
	}
}

// TestPrintAsIs: P10.6, every step has its line, also those on which the last one does not stand, with numbers of more than a digit.
func TestPrintAsIs(t *testing.T) {
	x := example(t)
	var steps []api.Step
	for range 101 {
		steps = append(steps, stuck(seq(0)), stuck(seq(1)))
	}
	steps = append(steps, stuck(seq(3), 200, 199), stuck(seq(3), 0, 101), proved(seq(0, 0, 1, 2, 3), api.RuleId, 0))
	printsPlain(t, x, steps)
	text, _ := deriv.Print(x, steps)
	if !strings.HasSuffix(text, "\n201: |- q; refuted stuck\n202: |- p | q; refuted stuck / 200, 199\n203: |- p | q; refuted stuck / 0, 101\n204: p, q, false, p | q |- p; proved id p\n") {
		t.Errorf("%q", text)
	}
}

// TestPrintChance: P10.6, steps by chance, against the plain reading.
func TestPrintChance(t *testing.T) {
	chance := newChance(5)
	for range 500 {
		x, steps := someSteps(t, chance, 16)
		if steps != nil {
			printsPlain(t, x, steps)
		}
	}
}

// justLong is a table with atoms of each length, and stuck steps whose text has so many bytes.
func justLong(t *testing.T, size int) (*formula.Table, []api.Step) {
	t.Helper()
	x := formula.New()
	for n := range api.MaxName {
		x.Atom(strings.Repeat("x", n+1))
	}
	var steps []api.Step
	for size > 0 {
		least := len(strconv.Itoa(len(steps)) + ": |- x; refuted stuck\n")
		goal := 0
		if size < 2*least {
			goal = size - least
		}
		if goal < 0 || goal >= api.MaxName {
			t.Fatalf("%d bytes are left", size)
		}
		steps = append(steps, stuck(seq(goal)))
		size -= least + goal
	}
	return x, steps
}

// tooLong asks for ErrLong, and for a table that is as it was.
func tooLong(t *testing.T, x *formula.Table, steps ...api.Step) {
	t.Helper()
	rows := x.Rows()
	if text, e := deriv.Print(x, steps); text != "" || e != api.ErrLong {
		t.Errorf("Print of %d steps: %d bytes, error %d", len(steps), len(text), e)
	}
	same(t, x, rows)
}

// TestPrintLong: P10.6, a text of just MaxText bytes, of one more, and of much more.
func TestPrintLong(t *testing.T) {
	for _, size := range []int{1000, api.MaxText - 1, api.MaxText} {
		x, steps := justLong(t, size)
		printsPlain(t, x, steps)
		text, e := deriv.Print(x, steps)
		if len(text) != size || e != api.OK {
			t.Errorf("%d bytes, error %d, not %d bytes", len(text), e, size)
		}
	}
	for _, size := range []int{api.MaxText + 1, api.MaxText + 2, api.MaxText + 100, 2 * api.MaxText} {
		x, steps := justLong(t, size)
		right(t, x, steps...)
		tooLong(t, x, steps...)
	}
	x, steps := justLong(t, api.MaxText+1)
	refusesAll(t, x, append(steps, stuck(seq(-1))), api.ErrSteps)
	refusesAll(t, x, append(steps, api.Step{}), api.ErrSteps)
}

// TestPrintLongParts: P10.6, a left side, a goal and a Main that are too long alone, and what is too long together only.
func TestPrintLongParts(t *testing.T) {
	x, _ := doubling(t, 40)
	tooLong(t, x, proved(seq(0, 0, 39), api.RuleId, 0))
	tooLong(t, x, proved(seq(0, 0), api.RuleId, 0), proved(seq(0, 0, 39), api.RuleId, 0))
	tooLong(t, x, proved(seq(0, 0), api.RuleId, 0), proved(seq(0, 0, 39), api.RuleId, 0), proved(seq(0, 0), api.RuleId, 0))
	tooLong(t, x, proved(seq(39, 39), api.RuleId, 39))
	// A formula whose text has its place twice, and not three times.
	long, _ := x.Or(12, 9)
	one, _ := syntax.Print(x, long)
	if len(one) > api.MaxText/2-100 || len(one) < api.MaxText/3+1 {
		t.Fatal(len(one))
	}
	step := proved(seq(long, long), api.RuleId, long)
	tooLong(t, x, step)
	two := proved(seq(0, 0, long), api.RuleId, 0)
	prints(t, x, "0: p, "+one+" |- p; proved id p\n", two)
	tooLong(t, x, two, step)
	tooLong(t, x, two, two, two)
}
