package translate_test

import (
	"math"
	"math/rand/v2"
	"slices"
	"strconv"
	"strings"
	"testing"

	"dictum/api"
	"dictum/formula"
	"dictum/sequent"
	"dictum/syntax"
	"dictum/term"
	"dictum/translate"
)

func newChance(seed uint64) *rand.Rand { return rand.New(rand.NewPCG(15, seed)) }

func atom(name string) api.Node { return api.Node{Kind: api.KAtom, Name: name} }

func join(k api.Kind, l, r int) api.Node { return api.Node{Kind: k, L: l, R: r} }

// seq is the sequent of these numbers, which may be no formulas'.
func seq(goal int, left ...int) api.Seq {
	s := api.Seq{Goal: goal}
	for _, id := range left {
		s.Left[id/64] |= 1 << (id % 64)
	}
	return s
}

// leftOf are the numbers of a left side, rising.
func leftOf(s api.Seq) []int {
	var l []int
	for id := range api.MaxForms {
		if s.Left[id/64]>>(id%64)&1 == 1 {
			l = append(l, id)
		}
	}
	return l
}

func proved(s api.Seq, k api.Rule, main int, kids ...int) api.Step {
	return api.Step{Seq: s, Proved: true, Rule: k, Main: main, Kids: kids}
}

func refuted(s api.Seq, k api.Rule, main int, kids ...int) api.Step {
	return api.Step{Seq: s, Rule: k, Main: main, Kids: kids}
}

func stuck(s api.Seq, kids ...int) api.Step { return refuted(s, api.RuleStuck, 0, kids...) }

func of(k api.TermKind, parts ...api.Term) api.Term { return api.Term{Kind: k, Sub: parts} }

func v(name string) api.Term { return api.Term{Kind: api.TVar, Name: name} }

func let(name string, a, b api.Term) api.Term {
	return api.Term{Kind: api.TLet, Name: name, Sub: []api.Term{a, b}}
}

// made is the table of rows that are one.
func made(t *testing.T, rows ...api.Node) *formula.Table {
	t.Helper()
	f, e := formula.From(rows)
	if f == nil || e != api.OK {
		t.Fatalf("From(%v): error %d", rows, e)
	}
	return f
}

// rowsOf is the table whose rows are just these formulas, in that order.
func rowsOf(t *testing.T, texts ...string) *formula.Table {
	t.Helper()
	f := formula.New()
	for i, text := range texts {
		if id, fault := syntax.Parse(f, text); fault.Code != api.OK || id != i || f.Len() != i+1 {
			t.Fatalf("%q: error %d, row %d of %d, not %d", text, fault.Code, id, f.Len(), i)
		}
	}
	return f
}

// filled has so many rows: those that are given and, behind them, atoms that stand nowhere else.
func filled(t *testing.T, rows []api.Node, many int) *formula.Table {
	t.Helper()
	f := made(t, rows...)
	for i := 0; f.Len() < many; i++ {
		if _, e := f.Atom("fill" + strconv.Itoa(i)); e != api.OK {
			t.Fatalf("row %d: error %d", f.Len(), e)
		}
	}
	return f
}

// readSeq is the sequent of a text, whose formulas become rows.
func readSeq(t *testing.T, f *formula.Table, text string) api.Seq {
	t.Helper()
	s, fault := sequent.Parse(f, text)
	if fault.Code != api.OK {
		t.Fatalf("%q: error %d at %v", text, fault.Code, fault.At)
	}
	return s
}

// readTerm is the term of a text, whose formulas are rows already.
func readTerm(t *testing.T, f *formula.Table, text string) api.Term {
	t.Helper()
	many := f.Len()
	x, fault := term.Parse(f, text)
	if fault.Code != api.OK {
		t.Fatalf("%.300q: error %d at %v", text, fault.Code, fault.At)
	}
	if f.Len() != many {
		t.Fatalf("%.300q makes rows", text)
	}
	return x
}

// copied is a list of steps that shares nothing with another one.
func copied(steps []api.Step) []api.Step {
	l := slices.Clone(steps)
	for i := range l {
		l[i].Kids = slices.Clone(l[i].Kids)
	}
	return l
}

// alikeSteps tells whether steps are the same; nil and empty lists of kids are.
func alikeSteps(a, b []api.Step) bool {
	return slices.EqualFunc(a, b, func(a, b api.Step) bool {
		return a.Seq == b.Seq && a.Proved == b.Proved && a.Rule == b.Rule && a.Main == b.Main && slices.Equal(a.Kids, b.Kids)
	})
}

// alike tells whether two terms are the same in all; nil and empty lists are.
func alike(a, b api.Term) bool {
	return a.Kind == b.Kind && a.Name == b.Name && a.Other == b.Other && a.Form == b.Form && slices.EqualFunc(a.Sub, b.Sub, alike)
}

// zero tells whether there is nothing in a term.
func zero(x api.Term) bool { return alike(x, api.Term{}) }

// show is a term as a test tells it, whatever it holds, but no more than a line of it.
func show(x api.Term) string {
	var out strings.Builder
	var walk func(x api.Term)
	walk = func(x api.Term) {
		if out.Len() > 400 {
			return
		}
		out.WriteString("{" + strconv.Itoa(int(x.Kind)) + " " + x.Name + " " + x.Other + " " + strconv.Itoa(x.Form))
		for _, part := range x.Sub {
			walk(part)
		}
		out.WriteString("}")
	}
	walk(x)
	return out.String()
}

// showSteps are steps as a test tells them.
func showSteps(steps []api.Step) string {
	numbers := func(l []int) string {
		var out []string
		for _, n := range l {
			out = append(out, strconv.Itoa(n))
		}
		return strings.Join(out, " ")
	}
	out := ""
	for i, step := range steps {
		if i == 30 {
			return out + ".."
		}
		out += "{" + numbers(leftOf(step.Seq)) + " |- " + strconv.Itoa(step.Seq.Goal) + "; " + strconv.FormatBool(step.Proved) + " by rule " + strconv.Itoa(int(step.Rule)) + " of " + strconv.Itoa(step.Main) + " / " + numbers(step.Kids) + "} "
	}
	return out
}

// kept asks that a call leaves the table and the steps as they were.
func kept(t *testing.T, f *formula.Table, steps []api.Step, call func()) {
	t.Helper()
	rows, was := f.Rows(), copied(steps)
	call()
	if !slices.Equal(f.Rows(), rows) {
		t.Errorf("the rows %v have become %v", rows, f.Rows())
	}
	if !alikeSteps(steps, was) {
		t.Errorf("the steps %s have become %s", showSteps(was), showSteps(steps))
	}
}

// sizes asks for these nodes and levels of Size.
func sizes(t *testing.T, f *formula.Table, steps []api.Step, at, nodes, levels int) {
	t.Helper()
	kept(t, f, steps, func() {
		if n, d, e := translate.Size(f, steps, at); n != nodes || d != levels || e != api.OK {
			t.Errorf("Size of step %d of %s: %d nodes, %d levels, error %d, not %d, %d", at, showSteps(steps), n, d, e, nodes, levels)
		}
	})
}

// gives asks for that term of Term, and for its nodes and levels of Size.
func gives(t *testing.T, f *formula.Table, steps []api.Step, at int, want api.Term) {
	t.Helper()
	sizes(t, f, steps, at, term.Size(want), term.Deep(want))
	kept(t, f, steps, func() {
		if x, e := translate.Term(f, steps, at); !alike(x, want) || e != api.OK {
			t.Errorf("Term of step %d of %s: %s, error %d, not %s", at, showSteps(steps), show(x), e, show(want))
		}
	})
}

// tooBig asks for ErrBig of Term beside nothing, and for these nodes and levels of Size.
func tooBig(t *testing.T, f *formula.Table, steps []api.Step, at, nodes, levels int) {
	t.Helper()
	sizes(t, f, steps, at, nodes, levels)
	kept(t, f, steps, func() {
		if x, e := translate.Term(f, steps, at); !zero(x) || e != api.ErrBig {
			t.Errorf("Term of %d nodes, %d levels: %s, error %d, not ErrBig", nodes, levels, show(x), e)
		}
	})
}

// refuses asks for that error of Size and of Term, beside nothing.
func refuses(t *testing.T, f *formula.Table, steps []api.Step, at int, want api.Errno) {
	t.Helper()
	kept(t, f, steps, func() {
		if n, d, e := translate.Size(f, steps, at); n != 0 || d != 0 || e != want {
			t.Errorf("Size of step %d of %s: %d nodes, %d levels, error %d, not error %d", at, showSteps(steps), n, d, e, want)
		}
		if x, e := translate.Term(f, steps, at); !zero(x) || e != want {
			t.Errorf("Term of step %d of %s: %s, error %d, not error %d", at, showSteps(steps), show(x), e, want)
		}
	})
}

// noSteps are numbers that none of so many steps has.
func noSteps(many int) []int {
	return []int{-1, -2, -many, many, many + 1, 1 << 31, 1 << 32, 1<<32 + 1, math.MaxInt, math.MinInt, math.MinInt + 1}
}

// someRows are rows of a table by chance, with up to so many atoms, each joined of some of the last near rows ahead of it.
func someRows(chance *rand.Rand, many, near, atoms int) []api.Node {
	f := formula.New()
	f.Atom("a")
	for f.Len() < many {
		part := func() int { return f.Len() - 1 - chance.IntN(min(near, f.Len())) }
		switch chance.IntN(12) {
		case 0, 1:
			f.Atom(string(rune('a' + chance.IntN(atoms))))
		case 2:
			f.Bot()
		case 3, 4, 5: // most of the rules are of implications
			f.Imp(part(), part())
		default:
			f.Put(join(api.KAnd+api.Kind(chance.IntN(3)), part(), part()))
		}
	}
	return f.Rows()
}

// someSeq is a sequent by chance of a table with so many rows, with up to most formulas on the left.
func someSeq(chance *rand.Rand, many, most int) api.Seq {
	var left []int
	for range chance.IntN(most + 1) {
		left = append(left, chance.IntN(many))
	}
	return seq(chance.IntN(many), left...)
}
