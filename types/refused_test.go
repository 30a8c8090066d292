package types_test

import (
	"slices"
	"strings"
	"testing"

	"dictum/api"
	"dictum/formula"
	"dictum/term"
	"dictum/types"
)

// ahead asks that all three calls answer that error, and no way.
func ahead(t *testing.T, f *formula.Table, hyps []api.Hyp, x api.Term, form int, want api.Errno) {
	t.Helper()
	refuses(t, f, hyps, x, form, want)
	untold(t, f, hyps, x, want)
}

// wrongTerms are what layer 12's Check refuses, each with its error.
func wrongTerms() map[api.Errno][]api.Term {
	return map[api.Errno][]api.Term{
		api.ErrTerm: {
			{}, {Kind: 13}, {Kind: -1}, {Kind: api.TVar}, v("x y"), v("fun"), v(strings.Repeat("n", 32)), of(api.TApp, v("x")), of(api.TVar, v("x")), lam("", v("x")), lam("1", v("x")), the(v("x"), -1), the(v("x"), api.MaxForms),
			{Kind: api.TVar, Name: "x", Form: 1}, {Kind: api.TVar, Name: "x", Other: "y"}, choose(v("x"), "x", v("x"), "", v("x")), fst(fst(v(""))), let("", v("x"), v("x")), of(api.TPair), pair(v("x"), api.Term{}),
		},
		api.ErrLarge: {tall(api.MaxDeep+1, v("none")), tall(api.MaxDeep+1, api.Term{}), the(the(wide(15, v("p")), 0), 0)},
	}
}

// tall is a term of so many levels: x, and TFst round it.
func tall(levels int, x api.Term) api.Term {
	for range levels - 1 {
		x = fst(x)
	}
	return x
}

// wide is a term of pairs of so many levels, round x, which shares its parts.
func wide(levels int, x api.Term) api.Term {
	for range levels {
		x = pair(x, x)
	}
	return x
}

// TestNoTable: R1, ahead of all others.
func TestNoTable(t *testing.T) {
	for _, f := range noMade() {
		for _, x := range []api.Term{v("x"), {}, tall(2000, v("x")), the(v("x"), 0), lam("x", v("x"))} {
			for _, form := range append(noForms(), 0, 1) {
				ahead(t, f, nil, x, form, api.ErrNil)
				ahead(t, f, []api.Hyp{hyp("x", form)}, x, form, api.ErrNil)
				ahead(t, f, []api.Hyp{hyp("x", 0)}, x, form, api.ErrNil)
			}
		}
	}
}

// TestNoForm: a number that is no row's, of what is asked for or of any hypothesis, ahead of what is wrong with the term.
func TestNoForm(t *testing.T) {
	f := ruleTable(t)
	terms := []api.Term{v("p"), v("none"), lam("x", v("x")), {}, tall(api.MaxDeep+1, v("p")), the(v("p"), f.Len())}
	for _, form := range append(noForms(), f.Len(), f.Len()+1, 1023) {
		for _, x := range terms {
			refuses(t, f, nil, x, form, api.ErrForm)
			refuses(t, f, given(), x, form, api.ErrForm)
			for place := range len(given()) + 1 {
				ahead(t, f, slices.Insert(given(), place, hyp("bad", form)), x, 0, api.ErrForm)
			}
			// One that no name stands for, as another one has it behind, is asked of as well.
			ahead(t, f, []api.Hyp{hyp("p", form), hyp("p", 0)}, x, 0, api.ErrForm)
			ahead(t, f, []api.Hyp{hyp("", form)}, x, 0, api.ErrForm)
		}
	}
	takes(t, f, given(), abort(v("bot")), f.Len()-1)
	tells(t, f, []api.Hyp{hyp("x", f.Len()-1)}, v("x"), f.Len()-1)
}

// TestNoTerm: layer 12's error, ahead of what the rules refuse.
func TestNoTerm(t *testing.T) {
	f := ruleTable(t)
	for want, terms := range wrongTerms() {
		for _, x := range terms {
			if e := term.Check(x); e != want {
				t.Fatalf("Check(%s): error %d, not %d", show(x), e, want)
			}
			for form := range f.Len() {
				ahead(t, f, given(), x, form, want)
			}
		}
	}
	ahead(t, f, nil, app(v("none"), v("")), 0, api.ErrTerm) // the first part would be refused first
	ahead(t, f, nil, fst(lam("x", of(api.TApp))), 0, api.ErrTerm)
	ahead(t, f, nil, the(the(v("x"), api.MaxForms), f.Len()), 0, api.ErrTerm)
}

// TestEmptyTable: no number is a row's.
func TestEmptyTable(t *testing.T) {
	f := formula.New()
	refuses(t, f, nil, lam("x", v("x")), 0, api.ErrForm)
	ahead(t, f, []api.Hyp{hyp("x", 0)}, v("x"), 0, api.ErrForm)
	untold(t, f, nil, v("x"), api.ErrName)
	untold(t, f, nil, the(v("x"), 0), api.ErrForm)
	untold(t, f, nil, lam("x", v("x")), api.ErrUnsaid)
	untold(t, f, nil, api.Term{}, api.ErrTerm)
	if f.Len() != 0 {
		t.Errorf("%d rows", f.Len())
	}
}

// TestCutTable: what was a row's number and is no more is refused.
func TestCutTable(t *testing.T) {
	f := ruleTable(t)
	takes(t, f, given(), v("orimp"), rowOrImp)
	if e := f.Cut(rowOrImp); e != api.OK {
		t.Fatal(e)
	}
	ahead(t, f, given(), v("p"), rowP, api.ErrForm)
	hyps := given()[:len(given())-1] // all but the one whose formula is gone
	refuses(t, f, hyps, v("p"), rowOrImp, api.ErrForm)
	nowhere(t, f, hyps, the(v("p"), rowOrImp), api.ErrForm)
	onlyAt(t, f, hyps, v("p"), rowP)
}

// TestFullTable: a table that has no room left is as good as any.
func TestFullTable(t *testing.T) {
	rows := ruleTable(t).Rows()
	f := filled(t, rows, api.MaxForms)
	onlyAt(t, f, given(), app(v("orimp"), inl(v("p"))), rowP)
	onlyAt(t, f, []api.Hyp{hyp("x", api.MaxForms-1)}, the(v("x"), api.MaxForms-1), api.MaxForms-1)
	takes(t, f, given(), abort(v("bot")), api.MaxForms-1)
	refuses(t, f, given(), v("p"), api.MaxForms-1, api.ErrType)
	refuses(t, f, given(), v("p"), api.MaxForms, api.ErrForm)
	almost := filled(t, rows, api.MaxForms-1)
	refuses(t, almost, given(), v("p"), api.MaxForms-1, api.ErrForm)
	nowhere(t, almost, given(), the(v("p"), api.MaxForms-1), api.ErrForm)
}

// arrows has the rows p, p -> p, p -> p -> p, .., as many as a table has room for.
func arrows(t *testing.T) *formula.Table {
	rows := []api.Node{atom("p")}
	for len(rows) < api.MaxForms {
		rows = append(rows, join(api.KImp, 0, len(rows)-1))
	}
	return made(t, rows...)
}

// lambdas is x within so many functions.
func lambdas(many int, x api.Term) api.Term {
	for range many {
		x = lam("x", x)
	}
	return x
}

// TestDeep: MaxDeep levels, and one more.
func TestDeep(t *testing.T) {
	f := arrows(t)
	takes(t, f, nil, lambdas(api.MaxDeep-1, v("x")), api.MaxForms-1)
	refuses(t, f, nil, lambdas(api.MaxDeep-1, v("y")), api.MaxForms-1, api.ErrName, make([]int, api.MaxDeep-1)...)
	refuses(t, f, nil, lambdas(api.MaxDeep-1, v("x")), api.MaxForms-2, api.ErrType, make([]int, api.MaxDeep-2)...)
	refuses(t, f, nil, lambdas(api.MaxDeep, v("x")), api.MaxForms-1, api.ErrLarge)
	x := v("x")
	for range api.MaxDeep - 1 {
		x = app(x, v("y"))
	}
	onlyAt(t, f, []api.Hyp{hyp("y", 0), hyp("x", api.MaxForms-1)}, x, 0)
	untold(t, f, []api.Hyp{hyp("y", 0), hyp("x", api.MaxForms-2)}, x, api.ErrType)
	untold(t, f, nil, app(x, v("y")), api.ErrLarge)
}

// doubles has the rows p, p & p, (p & p) & (p & p), .., with so many conjunctions.
func doubles(t *testing.T, many int) *formula.Table {
	rows := []api.Node{atom("p")}
	for i := range many {
		rows = append(rows, join(api.KAnd, i, i))
	}
	return made(t, rows...)
}

// TestWide: MaxTerm nodes, and one more.
func TestWide(t *testing.T) {
	f := doubles(t, 15)
	x := the(wide(15, v("x")), 15)
	if n := term.Size(x); n != api.MaxTerm {
		t.Fatalf("%d nodes", n)
	}
	onlyAt(t, f, []api.Hyp{hyp("x", 0)}, x, 15)
	refuses(t, f, nil, x, 15, api.ErrName, make([]int, 16)...)
	ahead(t, f, []api.Hyp{hyp("x", 0)}, the(x, 15), 15, api.ErrLarge)
}

// TestManyHypotheses: many of them do not make many names slow.
func TestManyHypotheses(t *testing.T) {
	f := doubles(t, 14)
	hyps := slices.Repeat([]api.Hyp{hyp("x", 0), hyp("y", 1)}, 200000)
	hyps = append(hyps, slices.Repeat([]api.Hyp{hyp("z", 1)}, 200000)...)
	takes(t, f, hyps, wide(14, v("x")), 14)
}

// TestOwnMemory: R3, a way is the caller's own, and of the hypotheses their length alone counts.
func TestOwnMemory(t *testing.T) {
	f := ruleTable(t)
	x := pair(v("p"), fst(fst(v("p"))))
	a, _ := types.Where(f, given(), x, rowAnd)
	b, _ := types.Where(f, given(), x, rowAnd)
	for i := range a[:cap(a)] {
		a[:cap(a)][i] = -7
	}
	if want := []int{1, 0}; !slices.Equal(b, want) {
		t.Errorf("%v, not %v", b, want)
	}
	refuses(t, f, given(), x, rowAnd, api.ErrType, 1, 0)

	hyps := []api.Hyp{hyp("x", rowP), hyp("x", rowQ), hyp("y", -1)}
	tells(t, f, hyps[:1], v("x"), rowP)
	tells(t, f, hyps[:2], v("x"), rowQ)
	untold(t, f, hyps[:0], v("x"), api.ErrName)
	untold(t, f, []api.Hyp{}, v("x"), api.ErrName)
}

// TestNothingKept: R4, a name that one call gave is none of the next call.
func TestNothingKept(t *testing.T) {
	f, g := ruleTable(t), made(t, bot())
	tells(t, f, given(), v("imp"), rowImp)
	nowhere(t, f, nil, v("imp"), api.ErrName)
	nowhere(t, g, nil, v("imp"), api.ErrName)
	takes(t, f, nil, lam("x", v("x")), rowNotBot)
	nowhere(t, f, nil, v("x"), api.ErrName)
	tells(t, g, []api.Hyp{hyp("imp", 0)}, v("imp"), 0)
}
