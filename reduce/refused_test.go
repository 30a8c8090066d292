package reduce_test

import (
	"math"
	"slices"
	"strings"
	"testing"

	"dictum/api"
	"dictum/formula"
	"dictum/reduce"
	"dictum/term"
)

// wrongTerms are what layer 12's Check refuses, each with its error.
func wrongTerms() map[api.Errno][]api.Term {
	return map[api.Errno][]api.Term{
		api.ErrTerm: {
			{}, {Kind: 13}, {Kind: -1}, {Kind: api.TVar}, v("x y"), v("fun"), v(strings.Repeat("n", 32)), of(api.TApp, v("x")), of(api.TApp), of(api.TVar, v("x")), lam("", v("x")), lam("1", v("x")), the(v("x"), -1), the(v("x"), api.MaxForms), of(api.TThe), of(api.TFst), of(api.TCase), of(api.TLet, v("x")),
			{Kind: api.TVar, Name: "x", Form: 1}, {Kind: api.TVar, Name: "x", Other: "y"}, choose(v("x"), "x", v("x"), "", v("x")), fst(fst(v(""))), let("", v("x"), v("x")), of(api.TPair), pair(v("x"), api.Term{}), app(of(api.TLam), v("x")), fst(of(api.TPair)), fst(the(of(api.TPair), 0)),
		},
		api.ErrLarge: {tall(api.MaxDeep+1, v("x")), tall(api.MaxDeep+1, api.Term{}), sized(api.MaxTerm+1, "x"), sized(api.MaxTerm+1, "fun"), lam("x", lam("", sized(api.MaxTerm, "x"))), the(tall(api.MaxDeep, v("x")), api.MaxForms)},
	}
}

// TestNoTable: R1, ahead of all others.
func TestNoTable(t *testing.T) {
	for _, f := range noMade() {
		for _, x := range []api.Term{v("x"), {}, tall(2000, v("x")), the(v("x"), 0), the(v("x"), -1), app(lam("x", v("x")), v("y"))} {
			refused(t, f, x, api.ErrNil)
		}
	}
}

// TestNoTerm: layer 12's error, ahead of a formula that is none, of a fuel and of a way; Strip answers it, too.
func TestNoTerm(t *testing.T) {
	for want, terms := range wrongTerms() {
		for _, x := range terms {
			if e := term.Check(x); e != want {
				t.Fatalf("Check(%s): error %d, not %d", show(x), e, want)
			}
			for _, f := range []*formula.Table{formula.New(), rowTable(t)} {
				refused(t, f, x, want)
			}
			if got, e := reduce.Strip(x); !zero(got) || e != want {
				t.Errorf("Strip(%s): %s, error %d, not %d", show(x), show(got), e, want)
			}
		}
	}
	refused(t, rowTable(t), pair(the(v("x"), 500), v("")), api.ErrTerm)
}

// TestNoForm: a formula beside a part that is none of the table, in each place, ahead of a fuel and of a way; Strip asks for none.
func TestNoForm(t *testing.T) {
	f := rowTable(t)
	for _, form := range []int{f.Len(), f.Len() + 1, 500, api.MaxForms - 1} {
		x := the(v("x"), form)
		refused(t, f, x, api.ErrForm)
		for i, y := range append(holders(x), pair(app(lam("x", v("x")), v("y")), x)) {
			refused(t, f, y, api.ErrForm)
			refused(t, f, holders(y)[i%len(holders(y))], api.ErrForm)
			strips(t, y, strip(y))
		}
		strips(t, x, v("x"))
	}
	last := the(lam("x", v("x")), f.Len()-1)
	finds(t, f, last)
	finds(t, f, app(last, v("y")), nil)
}

// TestFuel: P14.3, what is no fuel is refused behind all else, also of a normal term.
func TestFuel(t *testing.T) {
	f := rowTable(t)
	for _, x := range []api.Term{v("x"), app(lam("x", v("x")), v("y")), the(v("x"), 0)} {
		for _, fuel := range noFuels() {
			runs(t, f, x, fuel, api.Term{}, 0, false, api.ErrArg)
		}
	}
	runs(t, f, v("x"), 0, v("x"), 0, true, api.OK)
	runs(t, f, v("x"), api.MaxFuel, v("x"), 0, true, api.OK)
	runs(t, f, the(v("x"), 0), 0, the(v("x"), 0), 0, false, api.OK)
	runs(t, f, the(v("x"), 0), 1, v("x"), 1, true, api.OK)
	runs(t, f, the(v("x"), 0), api.MaxFuel, v("x"), 1, true, api.OK)
}

// TestNoWay: P14.2, ways that lead to no part, beside such as lead to one.
func TestNoWay(t *testing.T) {
	f := rowTable(t)
	x := app(lam("x", the(v("x"), 0)), fst(pair(v("a"), v("b"))))
	for _, way := range [][]int{{0}, {1, 0}, {1, 0, 0}, {1, 0, 1}, {0, 0, 0}} {
		undone(t, f, x, way, api.ErrRedex)
	}
	for _, place := range []int{-1, -2, 2, 3, 1 << 32, 1<<32 + 1, math.MaxInt, math.MinInt} {
		undone(t, f, x, []int{place}, api.ErrRedex)
		undone(t, f, x, []int{place, 0}, api.ErrRedex)
		undone(t, f, x, []int{1, place}, api.ErrRedex)
		undone(t, f, x, []int{0, 0, place}, api.ErrRedex)
		undone(t, f, x, []int{1, 0, 1, place}, api.ErrRedex)
	}
	undone(t, f, x, make([]int, 5000), api.ErrRedex)
	undone(t, f, x, []int{0, 1}, api.ErrRedex)
	does(t, f, x, []int{0, 0}, app(lam("x", v("x")), fst(pair(v("a"), v("b")))))
	does(t, f, x, []int{1}, app(lam("x", the(v("x"), 0)), v("a")))
	does(t, f, x, nil, the(fst(pair(v("a"), v("b"))), 0))
}

// TestWayLength: R7, of a way its length alone counts.
func TestWayLength(t *testing.T) {
	f := rowTable(t)
	x := pair(fst(pair(v("a"), the(v("b"), 0))), v("c"))
	way := []int{0, 0, 1, 7, -7}
	does(t, f, x, way[:1], pair(v("a"), v("c")))
	does(t, f, x, way[:3], pair(fst(pair(v("a"), v("b"))), v("c")))
	undone(t, f, x, way[:0], api.ErrRedex)
	undone(t, f, x, way[:4], api.ErrRedex)
}

// TestLists: R3 and R7, nil and empty lists are the same, and what room a term's list has behind its end is nobody's.
func TestLists(t *testing.T) {
	f := rowTable(t)
	x := v("x")
	x.Sub = []api.Term{{Kind: 77}, {}}[:0]
	y := app(lam("x", x), v("y"))
	y.Sub = append(slices.Clip(y.Sub), api.Term{})[:2]
	does(t, f, y, nil, v("y"))
	finds(t, f, y, nil)
	runs(t, f, y, 3, v("y"), 1, true, api.OK)
	strips(t, y, y)
	if y.Sub[:3][2].Kind != 0 || x.Sub[:1][0].Kind != 77 {
		t.Error("what is nobody's was changed")
	}
}

// TestShared: R3, of a term that holds one list in several places the answer has each anew.
func TestShared(t *testing.T) {
	f := rowTable(t)
	part := the(pair(v("a"), v("a")), 3)
	x := pair(fst(part), pair(part, snd(part)))
	part = clone(part)
	does(t, f, x, []int{0}, pair(the(v("a"), 0), pair(part, snd(part))))
	does(t, f, x, []int{1, 1}, pair(fst(part), pair(part, the(v("a"), 1))))
	runs(t, f, x, 0, x, 0, false, api.OK)
	runs(t, f, x, 9, pair(v("a"), pair(part, v("a"))), 4, true, api.OK)
	strips(t, x, pair(fst(part.Sub[0]), pair(part.Sub[0], snd(part.Sub[0]))))
}

// TestOwnWays: R3, each way is the caller's own, and no two of them share memory.
func TestOwnWays(t *testing.T) {
	f := rowTable(t)
	x := pair(the(the(the(v("a"), 0), 0), 0), pair(fst(pair(v("a"), the(v("b"), 0))), the(v("c"), 0)))
	want := ways([]int{0}, []int{0, 0}, []int{0, 0, 0}, []int{1, 0}, []int{1, 0, 0, 1}, []int{1, 1})
	for place := range want {
		l := whichFound(t, f, x)
		way := l[place][:cap(l[place])]
		for i := range way {
			way[i] = -7
		}
		l[place] = want[place]
		if !slices.EqualFunc(l, want, slices.Equal) {
			t.Errorf("%v, not %v", l, want)
		}
	}
	finds(t, f, x, want...)
}

// TestEndlessLists: R1, lists that hold themselves.
func TestEndlessLists(t *testing.T) {
	l := make([]api.Term, 2)
	l[0] = v("x")
	l[1] = api.Term{Kind: api.TApp, Sub: l}
	f := rowTable(t)
	if _, e := reduce.Redexes(f, l[1]); e != api.ErrLarge {
		t.Error(e)
	}
	if _, e := reduce.Do(f, l[1], nil); e != api.ErrLarge {
		t.Error(e)
	}
	if _, e := reduce.Normal(f, l[1]); e != api.ErrLarge {
		t.Error(e)
	}
	if _, _, _, e := reduce.Run(f, l[1], 1); e != api.ErrLarge {
		t.Error(e)
	}
	if _, e := reduce.Strip(l[1]); e != api.ErrLarge {
		t.Error(e)
	}
}

// TestCutTable: what was a row's number and is no more is refused; and an empty table.
func TestCutTable(t *testing.T) {
	f := rowTable(t)
	x := app(the(lam("x", v("x")), 9), v("y"))
	does(t, f, x, nil, the(the(v("y"), 0), 0))
	if e := f.Cut(9); e != api.OK {
		t.Fatal(e)
	}
	refused(t, f, x, api.ErrForm)
	empty := formula.New()
	refused(t, empty, the(v("x"), 0), api.ErrForm)
	finds(t, empty, app(lam("x", v("x")), v("y")), nil)
	runs(t, empty, app(lam("x", v("x")), v("y")), 9, v("y"), 1, true, api.OK)
	if empty.Len() != 0 {
		t.Errorf("%d rows", empty.Len())
	}
}

// TestOtherTable: what is reduced hangs on the table's formula, not on its number.
func TestOtherTable(t *testing.T) {
	x := fst(the(pair(v("a"), v("b")), 2))
	finds(t, made(t, atom("p"), atom("q"), join(api.KAnd, 0, 1)), x, nil)
	finds(t, made(t, atom("p"), atom("q"), join(api.KOr, 0, 1)), x)
	does(t, made(t, atom("p"), atom("q"), join(api.KAnd, 1, 0)), x, nil, the(v("a"), 1))
}
