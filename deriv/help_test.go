package deriv_test

import (
	"math"
	"math/rand/v2"
	"reflect"
	"slices"
	"strconv"
	"strings"
	"testing"

	"dictum/api"
	"dictum/deriv"
	"dictum/formula"
	"dictum/sequent"
	"dictum/syntax"
)

func atom(name string) api.Node { return api.Node{Kind: api.KAtom, Name: name} }

func bot() api.Node { return api.Node{Kind: api.KBot} }

func join(k api.Kind, l, r int) api.Node { return api.Node{Kind: k, L: l, R: r} }

func kinds() []api.Kind { return []api.Kind{api.KAnd, api.KOr, api.KImp} }

func newChance(seed uint64) *rand.Rand { return rand.New(rand.NewPCG(10, seed)) }

// seq is the sequent of these numbers, which may be no formulas'.
func seq(goal int, left ...int) api.Seq {
	s := api.Seq{Goal: goal}
	for _, id := range left {
		s.Left[id/64] |= 1 << (id % 64)
	}
	return s
}

// leftOf are the numbers of a left side, rising.
func leftOf(s api.Seq) []int {
	var l []int
	for id := range api.MaxForms {
		if s.Left[id/64]>>(id%64)&1 == 1 {
			l = append(l, id)
		}
	}
	return l
}

func proved(s api.Seq, k api.Rule, main int, kids ...int) api.Step {
	return api.Step{Seq: s, Proved: true, Rule: k, Main: main, Kids: kids}
}

func refuted(s api.Seq, k api.Rule, main int, kids ...int) api.Step {
	return api.Step{Seq: s, Rule: k, Main: main, Kids: kids}
}

func stuck(s api.Seq, kids ...int) api.Step { return refuted(s, api.RuleStuck, 0, kids...) }

// made is the table of rows that are one.
func made(t *testing.T, rows ...api.Node) *formula.Table {
	t.Helper()
	x, e := formula.From(rows)
	if x == nil || e != api.OK {
		t.Fatalf("From(%v): error %d", rows, e)
	}
	return x
}

// filled has so many rows: those that are given and, behind them, atoms that stand nowhere else.
func filled(t *testing.T, rows []api.Node, many int) *formula.Table {
	t.Helper()
	x := made(t, rows...)
	for i := 0; x.Len() < many; i++ {
		if _, e := x.Atom("fill" + strconv.Itoa(i)); e != api.OK {
			t.Fatalf("row %d: error %d", x.Len(), e)
		}
	}
	return x
}

// read is the number that a formula's text has in the table, behind what its parts get.
func read(t *testing.T, x *formula.Table, text string) int {
	t.Helper()
	id, f := syntax.Parse(x, text)
	if f.Code != api.OK {
		t.Fatalf("%q: error %d at %v", text, f.Code, f.At)
	}
	return id
}

// readSeq is the sequent of a text, whose formulas become rows.
func readSeq(t *testing.T, x *formula.Table, text string) api.Seq {
	t.Helper()
	s, f := sequent.Parse(x, text)
	if f.Code != api.OK {
		t.Fatalf("%q: error %d at %v", text, f.Code, f.At)
	}
	return s
}

// example is the table of the chapter's examples.
func example(t *testing.T) *formula.Table {
	t.Helper()
	return made(t, atom("p"), atom("q"), bot(), join(api.KOr, 0, 1))
}

// same holds what is in a table against rows.
func same(t *testing.T, x *formula.Table, want []api.Node) {
	t.Helper()
	if got := x.Rows(); !slices.Equal(got, want) {
		t.Errorf("the table's rows: %v, not %v", got, want)
	}
}

// copied is a list of steps that shares nothing with another one.
func copied(steps []api.Step) []api.Step {
	l := slices.Clone(steps)
	for i := range l {
		l[i].Kids = slices.Clone(l[i].Kids)
	}
	return l
}

// alike tells whether steps are the same; nil and empty lists of kids are.
func alike(a, b []api.Step) bool {
	return slices.EqualFunc(a, b, func(a, b api.Step) bool {
		kids := slices.Equal(a.Kids, b.Kids)
		a.Kids, b.Kids = nil, nil
		return kids && reflect.DeepEqual(a, b)
	})
}

// show is a step as a test tells it.
func show(step api.Step) string {
	how := "refuted"
	if step.Proved {
		how = "proved"
	}
	var l []string
	for _, n := range append(leftOf(step.Seq), step.Kids...) {
		l = append(l, strconv.Itoa(n))
	}
	many := len(leftOf(step.Seq))
	return "{" + strings.Join(l[:many], " ") + " |- " + strconv.Itoa(step.Seq.Goal) + "; " + how + " by rule " + strconv.Itoa(int(step.Rule)) + " of " + strconv.Itoa(step.Main) + " / " + strings.Join(l[many:], " ") + "}"
}

func showAll(steps []api.Step) string {
	var l []string
	for _, step := range steps {
		l = append(l, show(step))
	}
	return strings.Join(l, " ")
}

// checks asks for that error of Check, and for a table and steps that are as they were.
func checks(t *testing.T, x *formula.Table, want api.Errno, steps ...api.Step) {
	t.Helper()
	rows, before := x.Rows(), copied(steps)
	if e := deriv.Check(x, steps); e != want {
		t.Errorf("Check of %s: error %d, not %d; rows %v", showAll(steps), e, want, rows)
	}
	same(t, x, rows)
	if !alike(steps, before) {
		t.Errorf("Check has changed %s to %s", showAll(before), showAll(steps))
	}
}

func right(t *testing.T, x *formula.Table, steps ...api.Step) {
	t.Helper()
	checks(t, x, api.OK, steps...)
}

func wrong(t *testing.T, x *formula.Table, steps ...api.Step) {
	t.Helper()
	checks(t, x, api.ErrSteps, steps...)
}

// refusesAll asks for that error of every call that has steps, beside zeros and nothing.
func refusesAll(t *testing.T, x *formula.Table, steps []api.Step, want api.Errno) {
	t.Helper()
	if e := deriv.Check(x, steps); e != want {
		t.Errorf("Check: error %d, not %d", e, want)
	}
	if s, ok, e := deriv.Tells(x, steps); s != (api.Seq{}) || ok || e != want {
		t.Errorf("Tells: %v, %v, error %d, not error %d", s, ok, e, want)
	}
	if l, e := deriv.Reach(x, steps); len(l) != 0 || e != want {
		t.Errorf("Reach: %v, error %d, not error %d", l, e, want)
	}
	if l, e := deriv.Trim(x, steps); len(l) != 0 || e != want {
		t.Errorf("Trim: %v, error %d, not error %d", l, e, want)
	}
	if n, e := deriv.Height(x, steps); n != 0 || e != want {
		t.Errorf("Height: %d, error %d, not error %d", n, e, want)
	}
	if n, e := deriv.Unfold(x, steps); n != 0 || e != want {
		t.Errorf("Unfold: %d, error %d, not error %d", n, e, want)
	}
	if l, e := deriv.Uses(x, steps); len(l) != 0 || e != want {
		t.Errorf("Uses: %v, error %d, not error %d", l, e, want)
	}
	if text, e := deriv.Print(x, steps); text != "" || e != want {
		t.Errorf("Print: %q, error %d, not error %d", text, e, want)
	}
}

// prints asks for that text of Print, and for a table that is as it was.
func prints(t *testing.T, x *formula.Table, want string, steps ...api.Step) {
	t.Helper()
	rows := x.Rows()
	if text, e := deriv.Print(x, steps); text != want || e != api.OK {
		t.Errorf("Print of %s: %.300q, error %d, not %.300q", showAll(steps), text, e, want)
	}
	same(t, x, rows)
}

// parses asks for these steps of a text, and for these rows, and no others, behind those that the table had.
func parses(t *testing.T, x *formula.Table, text string, want []api.Step, more ...api.Node) {
	t.Helper()
	rows := x.Rows()
	if got, e := deriv.Parse(x, text); !alike(got, want) || e != api.OK {
		t.Errorf("Parse(%.300q): %s, error %d, not %s", text, showAll(got), e, showAll(want))
	}
	same(t, x, append(rows, more...))
}

// refuses asks for that error of Parse beside nothing, and for a table that is as it was.
func refuses(t *testing.T, x *formula.Table, text string, want api.Errno) {
	t.Helper()
	rows := x.Rows()
	if got, e := deriv.Parse(x, text); len(got) != 0 || e != want {
		t.Errorf("Parse(%.300q): %d steps, error %d, not error %d", text, len(got), e, want)
	}
	if !slices.Equal(x.Rows(), rows) {
		t.Errorf("Parse(%.300q) has changed the table", text)
	}
}

// noForms are numbers that no formula of a table with so many rows has.
func noForms(many int) []int {
	return []int{-1, -2, -64, -many - 1, math.MinInt, math.MinInt + 1, many, many + 1, 2*many + 7, api.MaxForms, api.MaxForms + 1, math.MaxInt - 1, math.MaxInt}
}

// noRules are numbers that no rule has.
func noRules() []api.Rule {
	return []api.Rule{0, -1, -13, 15, 16, 27, 64, 1 << 32, 1<<32 + 1, math.MaxInt, math.MinInt, math.MinInt + 1}
}

// someRows are rows of a table by chance, with up to so many atoms, each joined of some of the last near rows ahead of it.
func someRows(chance *rand.Rand, many, near, atoms int) []api.Node {
	x := formula.New()
	x.Atom("a")
	for x.Len() < many {
		part := func() int { return x.Len() - 1 - chance.IntN(min(near, x.Len())) }
		switch chance.IntN(12) {
		case 0, 1:
			x.Atom(string(rune('a' + chance.IntN(atoms))))
		case 2:
			x.Bot()
		case 3, 4, 5: // most of the rules are of implications
			x.Imp(part(), part())
		default:
			x.Put(join(kinds()[chance.IntN(3)], part(), part()))
		}
	}
	return x.Rows()
}

// someSeq is a sequent by chance of a table with so many rows, with up to most formulas on the left.
func someSeq(chance *rand.Rand, many, most int) api.Seq {
	var left []int
	for range chance.IntN(most + 1) {
		left = append(left, chance.IntN(many))
	}
	return seq(chance.IntN(many), left...)
}
