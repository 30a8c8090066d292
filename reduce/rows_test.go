package reduce_test

import (
	"slices"
	"testing"

	"dictum/api"
	"dictum/formula"
)

// rowTable has a row of each kind, and some more: p 0, q 1, p -> q 2, p & q 3, p | q 4, false 5, q -> p 6, q & p 7, q | p 8, p -> p 9.
func rowTable(t *testing.T) *formula.Table {
	return made(t, atom("p"), atom("q"), join(api.KImp, 0, 1), join(api.KAnd, 0, 1), join(api.KOr, 0, 1), bot(), join(api.KImp, 1, 0), join(api.KAnd, 1, 0), join(api.KOr, 1, 0), join(api.KImp, 0, 0))
}

// becoming is a term and what it becomes.
type becoming struct{ from, to string }

// rowCases are cases of each row of P14.1.
func rowCases() map[int][]becoming {
	return map[int][]becoming{
		1: {
			{"(fun x => x) y", "y"}, {"(fun x => z) y", "z"}, {"(fun x => x x) (fun x => x x)", "(fun x => x x) (fun x => x x)"}, {"(fun x => fun y => x y) y", "fun v0 => y v0"}, {"(fun x => fun x => x) y", "fun x => x"},
			{"(fun x => (x, (x, fst x))) (a b)", "(a b, (a b, fst (a b)))"}, {"(fun x => x) (y : p)", "(y : p)"}, {"(fun x => fun v0 => fun y => x v0) (y v0)", "fun v1 => fun v2 => y v0 v1"},
		},
		2: {
			{"(fun x => x : p -> q) y", "((y : p) : q)"}, {"(fun x => x : q -> p) y", "((y : q) : p)"}, {"(fun x => z : p -> q) y", "(z : q)"}, {"(fun x => (x, fun y => x) : p -> p) y", "(((y : p), fun v0 => (y : p)) : p)"},
			{"(fun x => (x : q) : p -> q) (y : q)", "((((y : q) : p) : q) : q)"}, {"(fun x => fun x => x : p -> q) y", "(fun x => x : q)"},
		},
		3: {{"fst (a, b)", "a"}, {"snd (a, b)", "b"}, {"fst (fst (a, b), c)", "fst (a, b)"}, {"snd (a, (b : p))", "(b : p)"}, {"fst ((a, b), c)", "(a, b)"}},
		4: {{"fst ((a, b) : p & q)", "(a : p)"}, {"snd ((a, b) : p & q)", "(b : q)"}, {"fst ((a, b) : q & p)", "(a : q)"}, {"snd ((a, b) : q & p)", "(b : p)"}, {"fst (((a : q), b) : p & q)", "((a : q) : p)"}},
		5: {
			{"case inl a of x => x b | y => y c", "a b"}, {"case inr a of x => x b | y => y c", "a c"}, {"case inl a of x => y | y => y", "y"}, {"case inr a of x => x | y => x", "x"}, {"case inl a of x => x | x => fst x", "a"}, {"case inr a of x => x | x => fst x", "fst a"},
			{"case inl y of x => fun y => x | y => z", "fun v0 => y"}, {"case inr x of x => z | y => fun x => y", "fun v0 => x"},
		},
		6: {
			{"case (inl a : p | q) of x => x b | y => y c", "(a : p) b"}, {"case (inr a : p | q) of x => x b | y => y c", "(a : q) c"}, {"case (inl a : q | p) of x => (x, x) | y => y", "((a : q), (a : q))"}, {"case (inr a : q | p) of x => x | y => fst y", "fst (a : p)"},
			{"case (inl a : p | q) of x => z | y => y", "z"}, {"case (inr x : p | q) of x => z | y => fun x => y", "fun v0 => (x : q)"},
		},
		7: {{"let x = a in b", "b"}, {"let x = a in x", "a"}, {"let x = x in (x, x)", "(x, x)"}, {"let x = a b in (x, fun x => x)", "(a b, fun x => x)"}, {"let x = y in fun y => x", "fun v0 => y"}, {"let x = (a : p) in fst x", "fst (a : p)"}},
		8: {{"(x : p)", "x"}, {"(f x : q)", "f x"}, {"(fst x : p)", "fst x"}, {"(snd x : p)", "snd x"}, {"((fun x => x : p -> q) : p)", "(fun x => x : p -> q)"}, {"((x : p) : q)", "(x : p)"}, {"((fun x => x) y : q)", "(fun x => x) y"}, {"(fst (a, b) : p)", "fst (a, b)"}},
	}
}

// roundOf are the holders of a term that make no part of it one with themselves: a formula that is beside would.
func roundOf(x api.Term) []api.Term {
	return []api.Term{lam("n", x), app(v("x0"), x), pair(x, v("x0")), pair(v("x0"), x), inl(x), inr(x), abort(x), choose(v("x0"), "n", x, "m", v("x1")), choose(v("x0"), "n", v("x1"), "m", x)}
}

// TestRows: P14.1, what each row says, of the term itself and of a part of another one.
func TestRows(t *testing.T) {
	for number, l := range rowCases() {
		for _, c := range l {
			f := rowTable(t)
			from, to := read(t, f, c.from), read(t, f, c.to)
			if f.Len() != 10 {
				t.Fatalf("row %d: %v puts rows", number, c)
			}
			does(t, f, from, nil, to)
			does(t, f, from, []int{}, to)
			outs, ins := roundOf(from), roundOf(to)
			for i, way := range [][]int{{0}, {1}, {0}, {1}, {0}, {0}, {0}, {1}, {2}} {
				does(t, f, outs[i], way, ins[i])
				undone(t, f, outs[i], nil, api.ErrRedex)
				deeper := roundOf(outs[i])
				does(t, f, deeper[3], append([]int{1}, way...), roundOf(ins[i])[3])
			}
		}
	}
}

// TestRowsElsewhere: P14.2, the other parts stay as they are, though they could be reduced.
func TestRowsElsewhere(t *testing.T) {
	f := rowTable(t)
	x := read(t, f, "((fun x => x) a, fst (b, (c : p)))")
	does(t, f, x, []int{0}, read(t, f, "(a, fst (b, (c : p)))"))
	does(t, f, x, []int{1}, read(t, f, "((fun x => x) a, b)"))
	does(t, f, x, []int{1, 0, 1}, read(t, f, "((fun x => x) a, fst (b, c))"))
	finds(t, f, x, []int{0}, []int{1}, []int{1, 0, 1})
}

// noRows are terms that no row says anything of, though they look like such.
func noRows() []string {
	return []string{
		"x", "fun x => x", "(a, b)", "inl a", "inr a", "abort a", "x y", "fst x", "snd x", "case a of x => x | y => y",
		"(fun x => x : p) y", "(fun x => x : p & q) y", "(fun x => x : p | q) y", "(fun x => x : false) y", "((a, b) : p -> q) y", "(inl a : p -> q) y", "(a, b) c", "inl a b", "abort a b", "(abort a : p -> q) b",
		"fst ((a, b) : p)", "snd ((a, b) : p)", "fst ((a, b) : p -> q)", "snd ((a, b) : p | q)", "fst ((a, b) : false)", "fst (fun x => x)", "snd (fun x => x : p & q)", "fst (inl a)", "snd (inr a : p & q)", "fst (abort a)", "snd (abort a : p & q)",
		"case (inl a : p) of x => x | y => y", "case (inr a : p & q) of x => x | y => y", "case (inl a : p -> q) of x => x | y => y", "case (inr a : false) of x => x | y => y", "case (a, b) of x => x | y => y", "case ((a, b) : p | q) of x => x | y => y", "case fun x => x of x => x | y => y", "case (abort a : p | q) of x => x | y => y",
		"(fun x => x : p -> q)", "((a, b) : p & q)", "(inl a : p | q)", "(inr a : p | q)", "(abort a : p)", "(case a of x => x | y => y : p)", "(fun x => x : p)",
		"(case a of x => x | y => y : p -> q) b", "fst (case a of x => x | y => y)", "fst (case a of x => x | y => y : p & q)", "case case a of x => x | y => y of x => x | y => y", "case (case a of x => x | y => y : p | q) of x => x | y => y",
		"abort (fun x => x)", "abort (abort a : false)", "inl (inr a)", "x (fun y => y)", "x (fun y => y : p -> q)", "case a of x => inl x | y => inr y",
	}
}

// TestNoRows: P14.1, what looks like one of the rows and is not is nothing that is reduced.
func TestNoRows(t *testing.T) {
	for _, text := range noRows() {
		f := rowTable(t)
		x := read(t, f, text)
		finds(t, f, x)
		undone(t, f, x, nil, api.ErrRedex)
		runs(t, f, x, 9, x, 0, true, api.OK)
		runs(t, f, x, 0, x, 0, true, api.OK)
	}
}

// TestKindsBeside: P14.1, of rows 2, 4, 6 and 8 all kinds of terms in the place of the one with the formula, with each formula.
func TestKindsBeside(t *testing.T) {
	f := rowTable(t)
	rows := f.Rows()
	for _, in := range append(holders(v("x")), v("x")) {
		for form, n := range rows {
			x := the(in, form)
			needless := slices.Contains([]api.TermKind{api.TVar, api.TApp, api.TFst, api.TSnd, api.TThe}, in.Kind)
			can := func(outer api.Term, want bool) {
				t.Helper()
				l := whichFound(t, f, outer)
				if slices.ContainsFunc(l, func(way []int) bool { return len(way) == 0 }) != want {
					t.Errorf("%s: %v", show(outer), l)
				}
			}
			can(x, needless)
			can(app(x, v("y")), in.Kind == api.TLam && n.Kind == api.KImp)
			can(fst(x), in.Kind == api.TPair && n.Kind == api.KAnd)
			can(snd(x), in.Kind == api.TPair && n.Kind == api.KAnd)
			can(choose(x, "x", v("x"), "y", v("y")), (in.Kind == api.TInl || in.Kind == api.TInr) && n.Kind == api.KOr)
			can(app(v("y"), x), false)
			can(let("x", x, v("y")), true)
			can(let("x", v("y"), x), true)
			can(abort(x), false)
		}
	}
}

// TestFormsStay: the numbers of formulas go along as they are, also those of a table that is full.
func TestFormsStay(t *testing.T) {
	f := filled(t, rowTable(t).Rows(), api.MaxForms-3)
	last := api.MaxForms - 4
	for _, k := range []api.Kind{api.KImp, api.KAnd, api.KOr} {
		if _, e := f.Put(join(k, last, 5)); e != api.OK {
			t.Fatal(e)
		}
	}
	does(t, f, app(the(lam("x", v("x")), last+1), v("y")), nil, the(the(v("y"), last), 5))
	does(t, f, fst(the(pair(v("a"), v("b")), last+2)), nil, the(v("a"), last))
	does(t, f, snd(the(pair(v("a"), v("b")), last+2)), nil, the(v("b"), 5))
	does(t, f, choose(the(inl(v("a")), last+3), "x", v("x"), "y", v("y")), nil, the(v("a"), last))
	does(t, f, choose(the(inr(v("a")), last+3), "x", v("x"), "y", v("y")), nil, the(v("a"), 5))
	does(t, f, the(v("a"), last+3), nil, v("a"))
}

// TestRunOutwards: P14.3, what is reduced within a part may let the terms round it be reduced, which then come ahead of all else.
func TestRunOutwards(t *testing.T) {
	f := rowTable(t)
	for _, c := range []struct {
		from  string
		steps []string
	}{
		{"(let z = a in fun x => (x : p)) b", []string{"(fun x => (x : p)) b", "(b : p)", "b"}},
		{"(let z = a in fun x => (x : p) : p -> q) b", []string{"(fun x => (x : p) : p -> q) b", "(((b : p) : p) : q)", "((b : p) : p)", "(b : p)", "b"}},
		{"fst (let z = a in ((b : p), c))", []string{"fst ((b : p), c)", "(b : p)", "b"}},
		{"snd (let z = a in ((b : p), c) : p & q)", []string{"snd (((b : p), c) : p & q)", "(c : q)", "c"}},
		{"case fst (inl (a : p), b) of x => x | y => z", []string{"case inl (a : p) of x => x | y => z", "(a : p)", "a"}},
		{"case (let z = a in inr z : p | q) of x => x | y => (y, y)", []string{"case (inr a : p | q) of x => x | y => (y, y)", "((a : q), (a : q))", "(a, (a : q))", "(a, a)"}},
		{"fst (fst ((a, b), (c : p)))", []string{"fst (a, b)", "a"}},
		{"(let z = a in x : p)", []string{"(x : p)", "x"}},
		{"((fun y => fun x => (x : p)) a (b : p), (c : p))", []string{"((fun x => (x : p)) (b : p), (c : p))", "(((b : p) : p), (c : p))", "((b : p), (c : p))", "(b, (c : p))", "(b, c)"}},
	} {
		x := read(t, f, c.from)
		runs(t, f, x, 0, x, 0, false, api.OK)
		for i, step := range c.steps {
			runs(t, f, x, i+1, read(t, f, step), i+1, i == len(c.steps)-1, api.OK)
		}
	}
}
