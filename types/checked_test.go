package types_test

import (
	"testing"

	"dictum/api"
)

// notOf are the rows of the table that are of another kind.
func notOf(t *testing.T, k api.Kind) []int {
	var out []int
	for id, n := range ruleTable(t).Rows() {
		if n.Kind != k {
			out = append(out, id)
		}
	}
	return out
}

// TestLam: P13.2, TLam.
func TestLam(t *testing.T) {
	f := ruleTable(t)
	takes(t, f, nil, lam("x", v("x")), rowNotBot)
	takes(t, f, given(), lam("x", v("q")), rowImp)
	takes(t, f, nil, lam("x", lam("y", v("x"))), rowTwice)
	takes(t, f, given(), lam("q", app(v("imp"), v("q"))), rowImp) // q stands for p there
	takes(t, f, []api.Hyp{hyp("x", rowQ)}, lam("x", lam("y", v("x"))), rowTwice)
	refuses(t, f, given(), lam("x", v("x")), rowImp, api.ErrType, 0)
	refuses(t, f, nil, lam("x", lam("x", v("x"))), rowTwice, api.ErrType, 0, 0)
	refuses(t, f, given(), lam("x", v("y")), rowImp, api.ErrName, 0)
	for _, id := range notOf(t, api.KImp) {
		refuses(t, f, given(), lam("x", v("x")), id, api.ErrType)
		refuses(t, f, given(), lam("x", v("none")), id, api.ErrType) // the part is not come to
	}
}

// TestPair: P13.2, TPair.
func TestPair(t *testing.T) {
	f := ruleTable(t)
	takes(t, f, given(), pair(v("p"), v("q")), rowAnd)
	takes(t, f, given(), pair(pair(v("p"), v("q")), inl(v("p"))), rowPairs)
	refuses(t, f, given(), pair(v("q"), v("p")), rowAnd, api.ErrType, 0)
	refuses(t, f, given(), pair(v("p"), v("p")), rowAnd, api.ErrType, 1)
	refuses(t, f, given(), pair(v("p"), v("none")), rowAnd, api.ErrName, 1)
	refuses(t, f, given(), pair(v("q"), v("none")), rowAnd, api.ErrType, 0)
	refuses(t, f, given(), pair(v("none"), v("p")), rowAnd, api.ErrName, 0)
	refuses(t, f, given(), pair(pair(v("p"), v("p")), v("none")), rowPairs, api.ErrType, 0, 1)
	refuses(t, f, given(), pair(v("and"), inr(v("p"))), rowPairs, api.ErrType, 1, 0)
	for _, id := range notOf(t, api.KAnd) {
		refuses(t, f, given(), pair(v("p"), v("q")), id, api.ErrType)
		refuses(t, f, given(), pair(v("none"), v("none")), id, api.ErrType)
	}
}

// TestInlInr: P13.2, TInl and TInr.
func TestInlInr(t *testing.T) {
	f := ruleTable(t)
	takes(t, f, given(), inl(v("p")), rowOr)
	takes(t, f, given(), inr(v("q")), rowOr)
	takes(t, f, given(), inl(v("p")), rowSame)
	takes(t, f, given(), inr(v("p")), rowSame)
	takes(t, f, given(), inl(inr(v("q"))), rowForks)
	refuses(t, f, given(), inl(v("q")), rowOr, api.ErrType, 0)
	refuses(t, f, given(), inr(v("p")), rowOr, api.ErrType, 0)
	refuses(t, f, given(), inr(inr(v("p"))), rowForks, api.ErrType, 0, 0)
	refuses(t, f, given(), inl(v("none")), rowOr, api.ErrName, 0)
	for _, id := range notOf(t, api.KOr) {
		for _, name := range []string{"p", "q", "none"} {
			refuses(t, f, given(), inl(v(name)), id, api.ErrType)
			refuses(t, f, given(), inr(v(name)), id, api.ErrType)
		}
	}
}

// TestCaseChecked: P13.2, TCase.
func TestCaseChecked(t *testing.T) {
	f := ruleTable(t)
	takes(t, f, given(), choose(v("or"), "x", inl(v("x")), "y", inr(v("y"))), rowOr)
	takes(t, f, given(), choose(v("or"), "x", pair(v("x"), v("q")), "x", pair(v("p"), v("x"))), rowAnd)
	takes(t, f, given(), choose(v("forks"), "x", v("x"), "y", choose(v("y"), "x", inl(v("x")), "y", inr(v("y")))), rowOr)
	takes(t, f, given(), choose(v("or"), "p", lam("q", v("p")), "q", lam("q", v("p"))), rowBack) // p is again the hypothesis in the last part
	refuses(t, f, given(), choose(v("or"), "x", inr(v("x")), "y", inr(v("y"))), rowOr, api.ErrType, 1, 0)
	refuses(t, f, given(), choose(v("or"), "x", inl(v("x")), "y", inl(v("y"))), rowOr, api.ErrType, 2, 0)
	refuses(t, f, given(), choose(v("or"), "x", v("y"), "y", v("x")), rowP, api.ErrName, 1)
	refuses(t, f, given(), choose(v("or"), "x", v("x"), "y", v("x")), rowP, api.ErrName, 2)
	refuses(t, f, given(), choose(v("x"), "x", v("p"), "x", v("p")), rowP, api.ErrName, 0)
	refuses(t, f, given(), choose(inl(v("p")), "x", v("p"), "y", v("p")), rowP, api.ErrUnsaid, 0)
	for _, h := range given() {
		n, _ := f.Node(h.Form)
		if n.Kind != api.KOr {
			refuses(t, f, given(), choose(v(h.Name), "x", v("none"), "y", v("none")), rowP, api.ErrType)
		}
	}
}

// TestAbort: P13.2, TAbort.
func TestAbort(t *testing.T) {
	f := ruleTable(t)
	for id := range f.Len() {
		takes(t, f, given(), abort(v("bot")), id)
		takes(t, f, given(), abort(app(v("no"), v("p"))), id)
		takes(t, f, given(), abort(choose(v("bots"), "x", v("x"), "y", v("y"))), id)
		refuses(t, f, given(), abort(v("none")), id, api.ErrName, 0)
		refuses(t, f, given(), abort(abort(v("bot"))), id, api.ErrUnsaid, 0)
		refuses(t, f, given(), abort(fst(v("p"))), id, api.ErrType, 0)
		for _, h := range given() {
			if h.Form != rowBot {
				refuses(t, f, given(), abort(v(h.Name)), id, api.ErrType)
			}
		}
	}
	takes(t, f, given(), lam("x", abort(v("bot"))), rowImp)
	refuses(t, f, given(), lam("x", abort(v("x"))), rowImp, api.ErrType, 0)
}

// TestNameComesBack: behind the part within which a name is given it stands for what it was, or for nothing.
func TestNameComesBack(t *testing.T) {
	f := ruleTable(t)
	same := choose(v("same"), "x", v("x"), "y", v("y"))
	for _, x := range []api.Term{
		the(lam("x", v("x")), rowNotBot),
		the(lam("y", let("x", v("y"), v("x"))), rowNotBot),
		let("x", v("p"), v("x")),
		let("x", v("p"), let("x", v("q"), v("x"))),
		same,
		choose(v("same"), "y", v("y"), "x", v("x")),
		choose(v("same"), "x", v("x"), "x", v("x")),
		the(same, rowP),
		the(choose(v("same"), "y", v("y"), "x", v("x")), rowP),
		the(let("x", v("p"), v("x")), rowP),
	} {
		nowhere(t, f, given(), let("u", x, v("x")), api.ErrName, 1)
		nowhere(t, f, given(), let("u", x, fst(v("y"))), api.ErrName, 1, 0)
		onlyAt(t, f, append(given(), hyp("x", rowP), hyp("x", rowAnd)), let("u", x, v("x")), rowAnd)
		onlyAt(t, f, append(given(), hyp("y", rowOr)), let("u", x, v("y")), rowOr)
	}
}
