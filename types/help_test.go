package types_test

import (
	"math"
	"math/rand/v2"
	"slices"
	"strconv"
	"strings"
	"testing"

	"dictum/api"
	"dictum/formula"
	"dictum/types"
)

func newChance(seed uint64) *rand.Rand { return rand.New(rand.NewPCG(13, seed)) }

func atom(name string) api.Node { return api.Node{Kind: api.KAtom, Name: name} }

func bot() api.Node { return api.Node{Kind: api.KBot} }

func join(k api.Kind, l, r int) api.Node { return api.Node{Kind: k, L: l, R: r} }

func hyp(name string, form int) api.Hyp { return api.Hyp{Name: name, Form: form} }

func of(k api.TermKind, parts ...api.Term) api.Term { return api.Term{Kind: k, Sub: parts} }

func v(name string) api.Term { return api.Term{Kind: api.TVar, Name: name} }

func lam(name string, a api.Term) api.Term {
	return api.Term{Kind: api.TLam, Name: name, Sub: []api.Term{a}}
}

func app(a, b api.Term) api.Term { return of(api.TApp, a, b) }

func pair(a, b api.Term) api.Term { return of(api.TPair, a, b) }

func fst(a api.Term) api.Term { return of(api.TFst, a) }

func snd(a api.Term) api.Term { return of(api.TSnd, a) }

func inl(a api.Term) api.Term { return of(api.TInl, a) }

func inr(a api.Term) api.Term { return of(api.TInr, a) }

func abort(a api.Term) api.Term { return of(api.TAbort, a) }

func the(a api.Term, form int) api.Term {
	return api.Term{Kind: api.TThe, Form: form, Sub: []api.Term{a}}
}

func let(name string, a, b api.Term) api.Term {
	return api.Term{Kind: api.TLet, Name: name, Sub: []api.Term{a, b}}
}

func choose(a api.Term, name string, b api.Term, other string, c api.Term) api.Term {
	return api.Term{Kind: api.TCase, Name: name, Other: other, Sub: []api.Term{a, b, c}}
}

// heads are the kinds with a word ahead of their one part.
func heads() []api.TermKind {
	return []api.TermKind{api.TFst, api.TSnd, api.TInl, api.TInr, api.TAbort}
}

// clone is a term that shares nothing with another one.
func clone(x api.Term) api.Term {
	x.Sub = slices.Clone(x.Sub)
	for i := range x.Sub {
		x.Sub[i] = clone(x.Sub[i])
	}
	return x
}

// alike tells whether two terms are the same in all; nil and empty lists are.
func alike(a, b api.Term) bool {
	return a.Kind == b.Kind && a.Name == b.Name && a.Other == b.Other && a.Form == b.Form && slices.EqualFunc(a.Sub, b.Sub, alike)
}

// show is a term as a test tells it, whatever it holds, but no more than a line of it.
func show(x api.Term) string {
	var out strings.Builder
	var walk func(x api.Term)
	walk = func(x api.Term) {
		if out.Len() > 300 {
			return
		}
		out.WriteString("{" + strconv.Itoa(int(x.Kind)) + " " + x.Name + " " + x.Other + " " + strconv.Itoa(x.Form))
		for _, part := range x.Sub {
			walk(part)
		}
		out.WriteString("}")
	}
	walk(x)
	return out.String()
}

// made is the table of rows that are one.
func made(t *testing.T, rows ...api.Node) *formula.Table {
	t.Helper()
	f, e := formula.From(rows)
	if f == nil || e != api.OK {
		t.Fatalf("From(%v): error %d", rows, e)
	}
	return f
}

// filled has so many rows: those that are given and, behind them, atoms that stand nowhere else.
func filled(t *testing.T, rows []api.Node, many int) *formula.Table {
	t.Helper()
	f := made(t, rows...)
	for i := 0; f.Len() < many; i++ {
		if _, e := f.Atom("fill" + strconv.Itoa(i)); e != api.OK {
			t.Fatalf("row %d: error %d", f.Len(), e)
		}
	}
	return f
}

// noMade are tables that no call made.
func noMade() []*formula.Table { return []*formula.Table{nil, {}, new(formula.Table)} }

// noForms are numbers that no table has room for.
func noForms() []int {
	return []int{-1, -2, -1024, api.MaxForms, api.MaxForms + 1, 1 << 16, 1<<32 - 1, 1 << 32, math.MaxInt, math.MinInt, math.MinInt + 1}
}

// kept asks that a call leaves the table, the hypotheses and the term as they were.
func kept(t *testing.T, f *formula.Table, hyps []api.Hyp, x api.Term, call func()) {
	t.Helper()
	rows, wasHyps, was := f.Rows(), slices.Clone(hyps), clone(x)
	call()
	if !slices.Equal(f.Rows(), rows) || !slices.Equal(hyps, wasHyps) || !alike(x, was) {
		t.Errorf("%v, %v, %s have become %v, %v, %s", rows, wasHyps, show(was), f.Rows(), hyps, show(x))
	}
}

// tells asks that Infer tells that formula.
func tells(t *testing.T, f *formula.Table, hyps []api.Hyp, x api.Term, want int) {
	t.Helper()
	kept(t, f, hyps, x, func() {
		if got, e := types.Infer(f, hyps, x); got != want || e != api.OK {
			t.Errorf("Infer(%v, %s): %d, error %d, not %d", hyps, show(x), got, e, want)
		}
	})
}

// untold asks that Infer answers that error, beside a zero.
func untold(t *testing.T, f *formula.Table, hyps []api.Hyp, x api.Term, want api.Errno) {
	t.Helper()
	kept(t, f, hyps, x, func() {
		if got, e := types.Infer(f, hyps, x); got != 0 || e != want {
			t.Errorf("Infer(%v, %s): %d, error %d, not %d", hyps, show(x), got, e, want)
		}
	})
}

// takes asks that Check and Where take a term at a formula.
func takes(t *testing.T, f *formula.Table, hyps []api.Hyp, x api.Term, form int) {
	t.Helper()
	refuses(t, f, hyps, x, form, api.OK)
}

// refuses asks for that error of Check and Where, and for that way of Where.
func refuses(t *testing.T, f *formula.Table, hyps []api.Hyp, x api.Term, form int, want api.Errno, way ...int) {
	t.Helper()
	kept(t, f, hyps, x, func() {
		if e := types.Check(f, hyps, x, form); e != want {
			t.Errorf("Check(%v, %s, %d): error %d, not %d", hyps, show(x), form, e, want)
		}
		if got, e := types.Where(f, hyps, x, form); !slices.Equal(got, way) || e != want {
			t.Errorf("Where(%v, %s, %d): %v, error %d, not %v, %d", hyps, show(x), form, got, e, way, want)
		}
	})
}

// someRows are rows of a table by chance: false, atoms, and what is made of them.
func someRows(chance *rand.Rand, many int, atoms int) []api.Node {
	f := formula.New()
	for f.Len() < many {
		if n := f.Len(); n > 1 && chance.IntN(4) > 0 {
			f.Put(join(api.KAnd+api.Kind(chance.IntN(3)), chance.IntN(n), chance.IntN(n)))
		} else if chance.IntN(5) == 0 {
			f.Bot()
		} else {
			f.Atom("a" + strconv.Itoa(chance.IntN(atoms)))
		}
	}
	return f.Rows()
}

// someHyps are hypotheses by chance, with these names.
func someHyps(chance *rand.Rand, many int, names []string, forms int) []api.Hyp {
	var out []api.Hyp
	for range many {
		out = append(out, hyp(names[chance.IntN(len(names))], chance.IntN(forms)))
	}
	return out
}

// someTerm is a term by chance, of up to so many levels, with these names and numbers of formulas below forms.
func someTerm(chance *rand.Rand, levels int, names []string, forms int) api.Term {
	name := func() string { return names[chance.IntN(len(names))] }
	part := func() api.Term { return someTerm(chance, levels-1, names, forms) }
	kind := api.TermKind(1 + chance.IntN(12))
	if levels == 1 || chance.IntN(8) == 0 {
		return v(name())
	}
	switch kind {
	case api.TVar, api.TApp:
		return app(part(), part())
	case api.TLam:
		return lam(name(), part())
	case api.TPair:
		return pair(part(), part())
	case api.TCase:
		return choose(part(), name(), part(), name(), part())
	case api.TThe:
		return the(part(), chance.IntN(forms))
	case api.TLet:
		return let(name(), part(), part())
	}
	return of(kind, part())
}

// allTerms are all terms of just so many nodes with these names and formulas' numbers below forms.
func allTerms(nodes int, names []string, forms int) []api.Term {
	var out []api.Term
	if nodes == 1 {
		for _, name := range names {
			out = append(out, v(name))
		}
		return out
	}
	for _, a := range allTerms(nodes-1, names, forms) {
		for _, name := range names {
			out = append(out, lam(name, a))
		}
		for _, k := range heads() {
			out = append(out, of(k, a))
		}
		for form := range forms {
			out = append(out, the(a, form))
		}
	}
	for n := 1; n < nodes-1; n++ {
		for _, a := range allTerms(n, names, forms) {
			for _, b := range allTerms(nodes-1-n, names, forms) {
				out = append(out, app(a, b), pair(a, b))
				for _, name := range names {
					out = append(out, let(name, a, b))
				}
			}
		}
	}
	return append(out, allCases(nodes, names, forms)...)
}

// allCases are those of allTerms that are cases.
func allCases(nodes int, names []string, forms int) []api.Term {
	var out []api.Term
	for n := 1; n < nodes-2; n++ {
		for m := 1; m < nodes-1-n; m++ {
			for _, a := range allTerms(n, names, forms) {
				for _, b := range allTerms(m, names, forms) {
					for _, c := range allTerms(nodes-1-n-m, names, forms) {
						for _, name := range names {
							for _, other := range names {
								out = append(out, choose(a, name, b, other, c))
							}
						}
					}
				}
			}
		}
	}
	return out
}
