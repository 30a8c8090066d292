package hilbert_test

import (
	"math"
	"math/rand/v2"
	"slices"
	"strconv"
	"strings"
	"testing"

	"dictum/api"
	"dictum/formula"
	"dictum/hilbert"
	"dictum/syntax"
	"dictum/term"
)

func newChance(seed uint64) *rand.Rand { return rand.New(rand.NewPCG(16, seed)) }

func atom(name string) api.Node { return api.Node{Kind: api.KAtom, Name: name} }

func join(k api.Kind, l, r int) api.Node { return api.Node{Kind: k, L: l, R: r} }

func line(k api.LineKind, form int) api.Line { return api.Line{Kind: k, Form: form} }

func hyp(form int) api.Line { return line(api.LineHyp, form) }

func mp(form, a, b int) api.Line { return api.Line{Kind: api.LineMP, Form: form, A: a, B: b} }

func named(name string, form int) api.Hyp { return api.Hyp{Name: name, Form: form} }

// axiomKinds are the kinds of axioms.
func axiomKinds() []api.LineKind {
	return []api.LineKind{api.LineK, api.LineS, api.LineFst, api.LineSnd, api.LinePair, api.LineInl, api.LineInr, api.LineCase, api.LineBot}
}

// noAxioms are numbers that are no kind of an axiom.
func noAxioms() []api.LineKind {
	return []api.LineKind{0, api.LineHyp, api.LineMP, 12, 13, -1, -2, -9, 255, 256, 257, 1 << 16, 1 << 32, 1<<32 + 1, math.MaxInt, math.MinInt, math.MinInt + 1}
}

// noForms are numbers that no table has room for.
func noForms() []int {
	return []int{-1, -2, -1024, api.MaxForms, api.MaxForms + 1, 1 << 16, 1<<32 - 1, 1 << 32, math.MaxInt, math.MinInt, math.MinInt + 1}
}

// noMade are tables that no call made.
func noMade() []*formula.Table { return []*formula.Table{nil, {}, new(formula.Table)} }

// made is the table of rows that are one.
func made(t *testing.T, rows ...api.Node) *formula.Table {
	t.Helper()
	f, e := formula.From(rows)
	if f == nil || e != api.OK {
		t.Fatalf("From(%v): error %d", rows, e)
	}
	return f
}

// rowsOf is the table whose rows are just these formulas, in that order.
func rowsOf(t *testing.T, texts ...string) *formula.Table {
	t.Helper()
	f := formula.New()
	for i, text := range texts {
		if id, fault := syntax.Parse(f, text); fault.Code != api.OK || id != i || f.Len() != i+1 {
			t.Fatalf("%q: error %d, row %d of %d, not %d", text, fault.Code, id, f.Len(), i)
		}
	}
	return f
}

// filled has so many rows: those that are given and, behind them, atoms that stand nowhere else.
func filled(t *testing.T, rows []api.Node, many int) *formula.Table {
	t.Helper()
	f := made(t, rows...)
	for i := 0; f.Len() < many; i++ {
		if _, e := f.Atom("fill" + strconv.Itoa(i)); e != api.OK {
			t.Fatalf("row %d: error %d", f.Len(), e)
		}
	}
	return f
}

// read is the number of a formula, which becomes a row with its parts.
func read(t *testing.T, f *formula.Table, text string) int {
	t.Helper()
	id, fault := syntax.Parse(f, text)
	if fault.Code != api.OK {
		t.Fatalf("%q: error %d at %v", text, fault.Code, fault.At)
	}
	return id
}

// readTerm is the term of a text.
func readTerm(t *testing.T, f *formula.Table, text string) api.Term {
	t.Helper()
	x, fault := term.Parse(f, text)
	if fault.Code != api.OK {
		t.Fatalf("%.300q: error %d at %v", text, fault.Code, fault.At)
	}
	return x
}

// alike tells whether two terms are the same in all; nil and empty lists are.
func alike(a, b api.Term) bool {
	return a.Kind == b.Kind && a.Name == b.Name && a.Other == b.Other && a.Form == b.Form && slices.EqualFunc(a.Sub, b.Sub, alike)
}

// clone is a term that shares nothing with another one.
func clone(x api.Term) api.Term {
	x.Sub = slices.Clone(x.Sub)
	for i := range x.Sub {
		x.Sub[i] = clone(x.Sub[i])
	}
	return x
}

// show is a term as a test tells it, whatever it holds, but no more than a line of it.
func show(x api.Term) string {
	var out strings.Builder
	var walk func(x api.Term)
	walk = func(x api.Term) {
		if out.Len() > 400 {
			return
		}
		out.WriteString("{" + strconv.Itoa(int(x.Kind)) + " " + x.Name + " " + x.Other + " " + strconv.Itoa(x.Form))
		for _, part := range x.Sub {
			walk(part)
		}
		out.WriteString("}")
	}
	walk(x)
	return out.String()
}

// showLines are lines as a test tells them, but not too many of them.
func showLines(lines []api.Line) string {
	out := strconv.Itoa(len(lines)) + " lines:"
	for i, l := range lines {
		if i == 40 {
			return out + " .."
		}
		out += " {" + strconv.Itoa(int(l.Kind)) + " " + strconv.Itoa(l.Form) + " " + strconv.Itoa(l.A) + " " + strconv.Itoa(l.B) + "}"
	}
	return out
}

// untouched asks that a call leaves the table as it was.
func untouched(t *testing.T, f *formula.Table, call func()) {
	t.Helper()
	rows := f.Rows()
	call()
	if !slices.Equal(f.Rows(), rows) {
		t.Errorf("%d rows have become %d: %v", len(rows), f.Len(), f.Rows())
	}
}

// proofKept asks that a call leaves hypotheses and lines as they were.
func proofKept(t *testing.T, hyps []int, lines []api.Line, call func()) {
	t.Helper()
	wasHyps, was := slices.Clone(hyps), slices.Clone(lines)
	call()
	if !slices.Equal(hyps, wasHyps) || !slices.Equal(lines, was) {
		t.Errorf("%v, %s have become %v, %s", wasHyps, showLines(was), hyps, showLines(lines))
	}
}

// rightTells asks that lines are right and tell a formula.
func rightTells(t *testing.T, f *formula.Table, hyps []int, lines []api.Line, want int) {
	t.Helper()
	untouched(t, f, func() {
		proofKept(t, hyps, lines, func() {
			if e := hilbert.Check(f, hyps, lines); e != api.OK {
				t.Errorf("Check(%v, %s): error %d", hyps, showLines(lines), e)
			}
			if got, e := hilbert.Tells(f, hyps, lines); got != want || e != api.OK {
				t.Errorf("Tells(%v, %s): %d, error %d, not %d", hyps, showLines(lines), got, e, want)
			}
		})
	})
}

// wrong asks for that error of all calls that ask for a proof, beside nothing.
func wrong(t *testing.T, f *formula.Table, hyps []int, lines []api.Line, h int, want api.Errno) {
	t.Helper()
	untouched(t, f, func() {
		proofKept(t, hyps, lines, func() {
			if e := hilbert.Check(f, hyps, lines); e != want {
				t.Errorf("Check(%v, %s): error %d, not %d", hyps, showLines(lines), e, want)
			}
			if id, e := hilbert.Tells(f, hyps, lines); id != 0 || e != want {
				t.Errorf("Tells(%v, %s): %d, error %d, not %d", hyps, showLines(lines), id, e, want)
			}
			if x, e := hilbert.Term(f, hyps, lines); !alike(x, api.Term{}) || e != want {
				t.Errorf("Term(%v, %s): %s, error %d, not %d", hyps, showLines(lines), show(x), e, want)
			}
		})
	})
	undeduced(t, f, hyps, lines, h, want)
}

// undeduced asks for that error of Deduce, beside nothing.
func undeduced(t *testing.T, f *formula.Table, hyps []int, lines []api.Line, h int, want api.Errno) {
	t.Helper()
	untouched(t, f, func() {
		proofKept(t, hyps, lines, func() {
			if l, e := hilbert.Deduce(f, hyps, lines, h); len(l) != 0 || e != want {
				t.Errorf("Deduce(%v, %s, %d): %s, error %d, not %d", hyps, showLines(lines), h, showLines(l), e, want)
			}
		})
	})
}

// uncompiled asks for that error of Compile, beside nothing.
func uncompiled(t *testing.T, f *formula.Table, hyps []api.Hyp, x api.Term, id int, want api.Errno) {
	t.Helper()
	wasHyps, was := slices.Clone(hyps), clone(x)
	untouched(t, f, func() {
		if l, e := hilbert.Compile(f, hyps, x, id); len(l) != 0 || e != want {
			t.Errorf("Compile(%v, %s, %d): %s, error %d, not %d", hyps, show(x), id, showLines(l), e, want)
		}
	})
	if !slices.Equal(hyps, wasHyps) || !alike(x, was) {
		t.Errorf("%v, %s have become %v, %s", wasHyps, show(was), hyps, show(x))
	}
}

// someRows are rows of a table by chance: false, atoms, and what is made of them.
func someRows(chance *rand.Rand, many int, atoms int) []api.Node {
	f := formula.New()
	for f.Len() < many {
		if n := f.Len(); n > 1 && chance.IntN(4) > 0 {
			f.Put(join(api.KAnd+api.Kind(chance.IntN(3)), chance.IntN(n), chance.IntN(n)))
		} else if chance.IntN(5) == 0 {
			f.Bot()
		} else {
			f.Atom("a" + strconv.Itoa(chance.IntN(atoms)))
		}
	}
	return f.Rows()
}
