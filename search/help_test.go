package search_test

import (
	"math"
	"math/rand/v2"
	"slices"
	"strconv"
	"strings"
	"testing"

	"dictum/api"
	"dictum/deriv"
	"dictum/formula"
	"dictum/search"
	"dictum/sequent"
	"dictum/syntax"
)

func atom(name string) api.Node { return api.Node{Kind: api.KAtom, Name: name} }

func bot() api.Node { return api.Node{Kind: api.KBot} }

func join(k api.Kind, l, r int) api.Node { return api.Node{Kind: k, L: l, R: r} }

func kinds() []api.Kind { return []api.Kind{api.KAnd, api.KOr, api.KImp} }

func newChance(seed uint64) *rand.Rand { return rand.New(rand.NewPCG(11, seed)) }

// seq is the sequent of these numbers, which may be no formulas'.
func seq(goal int, left ...int) api.Seq {
	s := api.Seq{Goal: goal}
	for _, id := range left {
		s.Left[id/64] |= 1 << (id % 64)
	}
	return s
}

// leftOf are the numbers of a left side, rising.
func leftOf(s api.Seq) []int {
	var l []int
	for id := range api.MaxForms {
		if s.Left[id/64]>>(id%64)&1 == 1 {
			l = append(l, id)
		}
	}
	return l
}

func proved(s api.Seq, k api.Rule, main int, kids ...int) api.Step {
	return api.Step{Seq: s, Proved: true, Rule: k, Main: main, Kids: kids}
}

func refuted(s api.Seq, k api.Rule, main int, kids ...int) api.Step {
	return api.Step{Seq: s, Rule: k, Main: main, Kids: kids}
}

func stuck(s api.Seq, kids ...int) api.Step { return refuted(s, api.RuleStuck, 0, kids...) }

// made is the table of rows that are one.
func made(t *testing.T, rows ...api.Node) *formula.Table {
	t.Helper()
	x, e := formula.From(rows)
	if x == nil || e != api.OK {
		t.Fatalf("From(%v): error %d", rows, e)
	}
	return x
}

// filled has so many rows: those that are given and, behind them, atoms that stand nowhere else.
func filled(t *testing.T, rows []api.Node, many int) *formula.Table {
	t.Helper()
	x := made(t, rows...)
	for i := 0; x.Len() < many; i++ {
		if _, e := x.Atom("fill" + strconv.Itoa(i)); e != api.OK {
			t.Fatalf("row %d: error %d", x.Len(), e)
		}
	}
	return x
}

// read is the number that a formula's text has in the table, behind what its parts get.
func read(t *testing.T, x *formula.Table, text string) int {
	t.Helper()
	id, f := syntax.Parse(x, text)
	if f.Code != api.OK {
		t.Fatalf("%q: error %d at %v", text, f.Code, f.At)
	}
	return id
}

// readSeq is the sequent of a text, whose formulas become rows.
func readSeq(t *testing.T, x *formula.Table, text string) api.Seq {
	t.Helper()
	s, f := sequent.Parse(x, text)
	if f.Code != api.OK {
		t.Fatalf("%q: error %d at %v", text, f.Code, f.At)
	}
	return s
}

// same holds what is in a table against rows.
func same(t *testing.T, x *formula.Table, want []api.Node) {
	t.Helper()
	if got := x.Rows(); !slices.Equal(got, want) {
		t.Errorf("the table's rows: %v, not %v", got, want)
	}
}

// copied is an answer that shares nothing with another one.
func copied(f api.Found) api.Found {
	f.Steps = slices.Clone(f.Steps)
	for i := range f.Steps {
		f.Steps[i].Kids = slices.Clone(f.Steps[i].Kids)
	}
	return f
}

// alike tells whether answers are the same; nil and empty lists are.
func alike(a, b api.Found) bool {
	return a.Proved == b.Proved && a.Visits == b.Visits && slices.EqualFunc(a.Steps, b.Steps, func(a, b api.Step) bool {
		return a.Seq == b.Seq && a.Proved == b.Proved && a.Rule == b.Rule && a.Main == b.Main && slices.Equal(a.Kids, b.Kids)
	})
}

// empty tells whether there is nothing in an answer.
func empty(f api.Found) bool { return alike(f, api.Found{}) }

func numbers(l []int) string {
	var out []string
	for _, n := range l {
		out = append(out, strconv.Itoa(n))
	}
	return strings.Join(out, " ")
}

// show is an answer as a test tells it.
func show(f api.Found) string {
	out := "proved " + strconv.FormatBool(f.Proved) + ", visits " + strconv.Itoa(f.Visits)
	for i, step := range f.Steps {
		if i == 60 {
			return out + " .."
		}
		out += " {" + numbers(leftOf(step.Seq)) + " |- " + strconv.Itoa(step.Seq.Goal) + "; " + strconv.FormatBool(step.Proved) + " by rule " + strconv.Itoa(int(step.Rule)) + " of " + strconv.Itoa(step.Main) + " / " + numbers(step.Kids) + "}"
	}
	return out
}

// found is an answer with these steps, the last of which is of the sequent that is asked for.
func found(steps ...api.Step) api.Found {
	return api.Found{Proved: steps[len(steps)-1].Proved, Steps: steps, Visits: len(steps)}
}

// finds asks for these steps, and for these rows, and no others, behind those that the table had; with just as great a budget as it needs, and with the greatest one.
func finds(t *testing.T, x *formula.Table, s api.Seq, want api.Found, more ...api.Node) {
	t.Helper()
	rows := x.Rows()
	for _, budget := range []int{want.Visits, api.MaxVisits} {
		x.Cut(len(rows))
		if got, e := search.Run(x, s, budget); !alike(got, want) || e != api.OK {
			t.Errorf("Run(%v |- %d, %d): %s, error %d, not %s; rows %v", leftOf(s), s.Goal, budget, show(got), e, show(want), rows)
		}
		same(t, x, slices.Concat(rows, more))
	}
}

// refuses asks for that error beside nothing, and for a table that is as it was.
func refuses(t *testing.T, x *formula.Table, s api.Seq, budget int, want api.Errno) {
	t.Helper()
	rows := x.Rows()
	if got, e := search.Run(x, s, budget); !empty(got) || e != want {
		t.Errorf("Run(%v |- %d, %d): %s, error %d, not error %d", leftOf(s), s.Goal, budget, show(got), e, want)
	}
	if !slices.Equal(x.Rows(), rows) {
		t.Errorf("Run(%v |- %d, %d), which is refused, has changed the table", leftOf(s), s.Goal, budget)
	}
}

// tells asks for these lines of the steps of a sequent's text, of which the table of its own has nothing but the text's formulas, and for these formulas as the rows that were made.
func tells(t *testing.T, text string, lines []string, more ...string) {
	t.Helper()
	x := formula.New()
	s := readSeq(t, x, text)
	old := x.Len()
	got, e := search.Run(x, s, api.MaxVisits)
	if e != api.OK {
		t.Errorf("%s: error %d", text, e)
		return
	}
	out, e := deriv.Print(x, got.Steps)
	if want := strings.Join(lines, "\n") + "\n"; out != want || e != api.OK {
		t.Errorf("%s: error %d, steps\n%snot\n%s", text, e, out, want)
	}
	if ends := strings.Contains(lines[len(lines)-1], "; proved "); got.Proved != ends || got.Visits != len(lines) {
		t.Errorf("%s: %s", text, show(got))
	}
	if x.Len() != old+len(more) {
		t.Errorf("%s: %d rows more, not %d", text, x.Len()-old, len(more))
	}
	for i, form := range more {
		if id := read(t, x, form); id != old+i {
			t.Errorf("%s: %s is row %d, not %d", text, form, id, old+i)
		}
	}
}

// noForms are numbers that no formula of a table with so many rows has.
func noForms(many int) []int {
	return []int{-1, -2, -64, -many - 1, math.MinInt, math.MinInt + 1, many, many + 1, 2*many + 7, api.MaxForms, api.MaxForms + 1, math.MaxInt - 1, math.MaxInt}
}

// noBudgets are numbers that are none from 1 to MaxVisits.
func noBudgets() []int {
	return []int{0, -1, -2, -api.MaxVisits, api.MaxVisits + 1, api.MaxVisits + 2, 2 * api.MaxVisits, 1 << 32, 1<<32 + 1, math.MaxInt, math.MaxInt - 1, math.MinInt, math.MinInt + 1}
}

// someRows are rows of a table by chance, with up to so many atoms, each joined of some of the last near rows ahead of it.
func someRows(chance *rand.Rand, many, near, atoms int) []api.Node {
	x := formula.New()
	x.Atom("a")
	for x.Len() < many {
		part := func() int { return x.Len() - 1 - chance.IntN(min(near, x.Len())) }
		switch chance.IntN(12) {
		case 0, 1:
			x.Atom(string(rune('a' + chance.IntN(atoms))))
		case 2:
			x.Bot()
		case 3, 4, 5: // most of the rules are of implications
			x.Imp(part(), part())
		default:
			x.Put(join(kinds()[chance.IntN(3)], part(), part()))
		}
	}
	return x.Rows()
}

// someSeq is a sequent by chance of a table with so many rows, with up to most formulas on the left.
func someSeq(chance *rand.Rand, many, most int) api.Seq {
	var left []int
	for range chance.IntN(most + 1) {
		left = append(left, chance.IntN(many))
	}
	return seq(chance.IntN(many), left...)
}
