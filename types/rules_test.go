package types_test

import (
	"testing"

	"dictum/api"
	"dictum/formula"
	"dictum/types"
)

// The rows of the tests of single rules.
const (
	rowP       = iota // p
	rowQ              // q
	rowBot            // false
	rowAnd            // p & q
	rowOr             // p | q
	rowImp            // p -> q
	rowNot            // ~p
	rowSame           // p | p
	rowBack           // q -> p
	rowTwice          // p -> q -> p
	rowPairs          // (p & q) & (p | q)
	rowBots           // false | false
	rowNotBot         // true
	rowForks          // (p | q) | (p | q)
	rowOrImp          // p | q -> p
	rowsOfTest        // how many they are
)

func ruleTable(t *testing.T) *formula.Table {
	f := made(t,
		atom("p"), atom("q"), bot(), join(api.KAnd, rowP, rowQ), join(api.KOr, rowP, rowQ), join(api.KImp, rowP, rowQ), join(api.KImp, rowP, rowBot),
		join(api.KOr, rowP, rowP), join(api.KImp, rowQ, rowP), join(api.KImp, rowP, rowBack), join(api.KAnd, rowAnd, rowOr), join(api.KOr, rowBot, rowBot), join(api.KImp, rowBot, rowBot),
		join(api.KOr, rowOr, rowOr), join(api.KImp, rowOr, rowP))
	if f.Len() != rowsOfTest {
		t.Fatalf("%d rows", f.Len())
	}
	return f
}

// given are hypotheses of all kinds of formulas.
func given() []api.Hyp {
	return []api.Hyp{
		hyp("p", rowP), hyp("q", rowQ), hyp("bot", rowBot), hyp("and", rowAnd), hyp("or", rowOr), hyp("imp", rowImp), hyp("no", rowNot),
		hyp("same", rowSame), hyp("back", rowBack), hyp("twice", rowTwice), hyp("pairs", rowPairs), hyp("bots", rowBots), hyp("forks", rowForks), hyp("orimp", rowOrImp),
	}
}

// onlyAt asks that a term is told to be of that formula, and is taken at it alone.
func onlyAt(t *testing.T, f *formula.Table, hyps []api.Hyp, x api.Term, form int) {
	t.Helper()
	tells(t, f, hyps, x, form)
	takes(t, f, hyps, x, form)
	for id := range f.Len() {
		if e := types.Check(f, hyps, x, id); id != form && e != api.ErrType {
			t.Errorf("Check(%v, %s, %d): error %d", hyps, show(x), id, e)
		}
	}
}

// nowhere asks that a term is refused at every formula, and not told, with that error at that way.
func nowhere(t *testing.T, f *formula.Table, hyps []api.Hyp, x api.Term, want api.Errno, way ...int) {
	t.Helper()
	untold(t, f, hyps, x, want)
	for id := range f.Len() {
		refuses(t, f, hyps, x, id, want, way...)
	}
}

// TestVar: P13.1, TVar.
func TestVar(t *testing.T) {
	f := ruleTable(t)
	for _, h := range given() {
		onlyAt(t, f, given(), v(h.Name), h.Form)
		for id := range f.Len() {
			if id != h.Form {
				refuses(t, f, given(), v(h.Name), id, api.ErrType)
			}
		}
	}
	for _, name := range []string{"r", "pp", "P", "p'", "x0"} {
		nowhere(t, f, given(), v(name), api.ErrName)
		nowhere(t, f, nil, v(name), api.ErrName)
	}
}

// TestVarLast: a name stands for the last hypothesis that has it.
func TestVarLast(t *testing.T) {
	f := ruleTable(t)
	x := v("x")
	onlyAt(t, f, []api.Hyp{hyp("x", rowP), hyp("x", rowQ)}, x, rowQ)
	onlyAt(t, f, []api.Hyp{hyp("x", rowQ), hyp("x", rowP)}, x, rowP)
	onlyAt(t, f, []api.Hyp{hyp("x", rowQ), hyp("y", rowOr), hyp("x", rowImp), hyp("z", rowP)}, x, rowImp)
	onlyAt(t, f, []api.Hyp{hyp("x", 0), hyp("x", 5), hyp("x", 0)}, x, 0)
}

// TestNamesOfHypotheses: nothing is asked of a hypothesis' name.
func TestNamesOfHypotheses(t *testing.T) {
	f := ruleTable(t)
	onlyAt(t, f, []api.Hyp{hyp("", rowP), hyp("x y", rowP), hyp("fun", rowP), hyp("x", rowQ), hyp("\xff", rowP), hyp("", rowBot)}, v("x"), rowQ)
}

// TestApp: P13.1, TApp.
func TestApp(t *testing.T) {
	f := ruleTable(t)
	onlyAt(t, f, given(), app(v("imp"), v("p")), rowQ)
	onlyAt(t, f, given(), app(v("no"), v("p")), rowBot)
	onlyAt(t, f, given(), app(v("twice"), v("p")), rowBack)
	onlyAt(t, f, given(), app(app(v("twice"), v("p")), v("q")), rowP)
	onlyAt(t, f, given(), app(v("orimp"), inl(v("p"))), rowP)   // the second part is checked, not told
	onlyAt(t, f, given(), app(v("orimp"), inr(v("q"))), rowP)   // so it is
	onlyAt(t, f, given(), app(v("imp"), abort(v("bot"))), rowQ) // so it is
	refuses(t, f, given(), app(v("imp"), v("p")), rowP, api.ErrType)

	for _, name := range []string{"p", "bot", "and", "or", "same"} {
		nowhere(t, f, given(), app(v(name), v("p")), api.ErrType)
		nowhere(t, f, given(), app(v(name), v("none")), api.ErrType) // the second part is not come to
	}
	nowhere(t, f, given(), app(v("imp"), v("q")), api.ErrType, 1)
	nowhere(t, f, given(), app(v("imp"), v("none")), api.ErrName, 1)
	nowhere(t, f, given(), app(v("none"), v("missing")), api.ErrName, 0)
	nowhere(t, f, given(), app(v("imp"), lam("x", v("x"))), api.ErrType, 1)
	nowhere(t, f, given(), app(v("imp"), app(v("back"), v("p"))), api.ErrType, 1, 1)
	nowhere(t, f, given(), app(lam("x", v("x")), v("p")), api.ErrUnsaid, 0)
	nowhere(t, f, given(), app(v("orimp"), inl(v("q"))), api.ErrType, 1, 0)
}

// TestFstSnd: P13.1, TFst and TSnd.
func TestFstSnd(t *testing.T) {
	f := ruleTable(t)
	onlyAt(t, f, given(), fst(v("and")), rowP)
	onlyAt(t, f, given(), snd(v("and")), rowQ)
	onlyAt(t, f, given(), fst(v("pairs")), rowAnd)
	onlyAt(t, f, given(), snd(v("pairs")), rowOr)
	onlyAt(t, f, given(), snd(fst(v("pairs"))), rowQ)
	refuses(t, f, given(), fst(v("and")), rowQ, api.ErrType)
	refuses(t, f, given(), snd(v("and")), rowP, api.ErrType)
	for _, half := range []func(api.Term) api.Term{fst, snd} {
		for _, name := range []string{"p", "bot", "or", "imp", "no"} {
			nowhere(t, f, given(), half(v(name)), api.ErrType)
		}
		nowhere(t, f, given(), half(v("none")), api.ErrName, 0)
		nowhere(t, f, given(), half(pair(v("p"), v("q"))), api.ErrUnsaid, 0)
		nowhere(t, f, given(), half(fst(v("and"))), api.ErrType)
		nowhere(t, f, given(), half(snd(v("or"))), api.ErrType, 0)
	}
}

// TestThe: P13.1, TThe.
func TestThe(t *testing.T) {
	f := ruleTable(t)
	for _, h := range given() {
		onlyAt(t, f, given(), the(v(h.Name), h.Form), h.Form)
		nowhere(t, f, given(), the(v(h.Name), rowNotBot), api.ErrType, 0)
	}
	onlyAt(t, f, nil, the(lam("x", v("x")), rowNotBot), rowNotBot)
	onlyAt(t, f, given(), the(pair(v("p"), v("q")), rowAnd), rowAnd)
	onlyAt(t, f, given(), fst(the(pair(v("p"), v("q")), rowAnd)), rowP)
	refuses(t, f, given(), the(v("p"), rowP), rowQ, api.ErrType)
	nowhere(t, f, given(), the(the(v("p"), rowP), rowQ), api.ErrType, 0)

	for _, form := range []int{f.Len(), f.Len() + 1, api.MaxForms - 1} {
		nowhere(t, f, given(), the(v("p"), form), api.ErrForm)
		nowhere(t, f, given(), the(v("none"), form), api.ErrForm) // the part is not come to
		nowhere(t, f, given(), fst(the(v("and"), form)), api.ErrForm, 0)
		refuses(t, f, given(), lam("x", pair(v("x"), the(v("x"), form))), rowImp, api.ErrType, 0)
		refuses(t, f, given(), lam("x", the(v("x"), form)), rowImp, api.ErrForm, 0)
	}
}

// TestLet: P13.1 and P13.2, TLet.
func TestLet(t *testing.T) {
	f := ruleTable(t)
	onlyAt(t, f, given(), let("x", v("and"), snd(v("x"))), rowQ)
	onlyAt(t, f, given(), let("p", v("q"), v("p")), rowQ)
	onlyAt(t, f, given(), let("p", v("and"), let("p", fst(v("p")), v("p"))), rowP)
	onlyAt(t, f, given(), pairTold(let("p", v("q"), v("p")), v("p")), rowP) // behind its part the name is what it was
	refuses(t, f, given(), let("x", v("p"), v("x")), rowQ, api.ErrType, 1)
	takes(t, f, given(), let("x", v("p"), pair(v("x"), v("q"))), rowAnd)
	takes(t, f, given(), let("x", v("p"), lam("y", v("x"))), rowBack)
	untold(t, f, given(), let("x", v("p"), lam("y", v("x"))), api.ErrUnsaid)
	refuses(t, f, given(), let("x", v("p"), lam("y", v("x"))), rowImp, api.ErrType, 1, 0)
	nowhere(t, f, given(), let("x", v("none"), v("missing")), api.ErrName, 0)
	nowhere(t, f, given(), let("x", v("x"), v("x")), api.ErrName, 0) // the name is not given to the first part
	nowhere(t, f, given(), let("x", v("p"), v("y")), api.ErrName, 1)
	nowhere(t, f, given(), let("x", lam("y", v("y")), v("none")), api.ErrUnsaid, 0)
	nowhere(t, f, given(), let("x", pair(v("p"), v("q")), v("x")), api.ErrUnsaid, 0)
}

// pairTold is a term of which both parts are told, and that is told what its second part is.
func pairTold(a, b api.Term) api.Term { return let("unused", a, b) }

// TestCaseTold: P13.1, TCase.
func TestCaseTold(t *testing.T) {
	f := ruleTable(t)
	onlyAt(t, f, given(), choose(v("same"), "x", v("x"), "y", v("y")), rowP)
	onlyAt(t, f, given(), choose(v("or"), "x", v("q"), "y", v("y")), rowQ)
	onlyAt(t, f, given(), choose(v("or"), "x", v("x"), "y", v("p")), rowP)
	onlyAt(t, f, given(), choose(v("or"), "p", v("p"), "p", app(v("back"), v("p"))), rowP)
	onlyAt(t, f, given(), choose(v("or"), "q", app(v("imp"), v("q")), "q", v("q")), rowQ)
	onlyAt(t, f, given(), choose(choose(v("forks"), "x", v("x"), "y", v("y")), "x", v("bot"), "y", v("bot")), rowBot)

	differ := choose(v("or"), "x", v("x"), "y", v("y"))
	untold(t, f, given(), differ, api.ErrType)
	refuses(t, f, given(), differ, rowP, api.ErrType, 2)
	refuses(t, f, given(), differ, rowQ, api.ErrType, 1)
	nowhere(t, f, given(), fst(differ), api.ErrType, 0) // the case itself refuses, not a part of it
	nowhere(t, f, given(), fst(choose(v("or"), "x", v("and"), "y", v("pairs"))), api.ErrType, 0)

	told := func(x api.Term) api.Term { return fst(x) }
	for _, name := range []string{"p", "bot", "and", "imp"} {
		nowhere(t, f, given(), choose(v(name), "x", v("x"), "y", v("y")), api.ErrType)
		nowhere(t, f, given(), told(choose(v(name), "x", v("none"), "y", v("missing"))), api.ErrType, 0)
	}
	nowhere(t, f, given(), told(choose(v("none"), "x", lam("z", v("z")), "y", v("y"))), api.ErrName, 0, 0)
	nowhere(t, f, given(), told(choose(v("or"), "x", lam("z", v("z")), "y", v("none"))), api.ErrUnsaid, 0, 1)
	nowhere(t, f, given(), told(choose(v("or"), "x", v("x"), "y", v("none"))), api.ErrName, 0, 2)
	nowhere(t, f, given(), told(choose(v("or"), "x", v("y"), "y", v("y"))), api.ErrName, 0, 1) // the other name is not given there
	nowhere(t, f, given(), told(choose(v("or"), "x", v("p"), "y", v("x"))), api.ErrName, 0, 2) // so it is
	nowhere(t, f, given(), told(choose(v("x"), "x", v("x"), "x", v("x"))), api.ErrName, 0, 0)
	nowhere(t, f, given(), told(choose(inl(v("p")), "x", v("x"), "x", v("x"))), api.ErrUnsaid, 0, 0)
}

// TestUnsaid: P13.1, the other kinds, wherever a term is told.
func TestUnsaid(t *testing.T) {
	f := ruleTable(t)
	for _, x := range []api.Term{lam("x", v("x")), lam("x", v("none")), pair(v("p"), v("q")), pair(v("none"), v("q")), inl(v("p")), inr(v("none")), abort(v("bot")), abort(v("none"))} {
		untold(t, f, given(), x, api.ErrUnsaid)
		nowhere(t, f, given(), app(x, v("none")), api.ErrUnsaid, 0)
		nowhere(t, f, given(), fst(x), api.ErrUnsaid, 0)
		nowhere(t, f, given(), snd(x), api.ErrUnsaid, 0)
		nowhere(t, f, given(), let("x", x, v("none")), api.ErrUnsaid, 0)
		nowhere(t, f, given(), choose(x, "x", v("none"), "y", v("none")), api.ErrUnsaid, 0)
		nowhere(t, f, given(), fst(let("x", v("p"), x)), api.ErrUnsaid, 0, 1)
		nowhere(t, f, given(), fst(choose(v("or"), "x", v("x"), "y", x)), api.ErrUnsaid, 0, 2)
		nowhere(t, f, given(), fst(choose(v("or"), "x", x, "y", v("none"))), api.ErrUnsaid, 0, 1)
		refuses(t, f, given(), abort(x), rowP, api.ErrUnsaid, 0)
	}
}
