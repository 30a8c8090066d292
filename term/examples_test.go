package term_test

import (
	"testing"

	"dictum/api"
	"dictum/formula"
)

// TestExamplePut is the chapter's example 1.
func TestExamplePut(t *testing.T) {
	puts(t, lam("y", app(v("x"), v("y"))), "x", v("y"), lam("v0", app(v("y"), v("v0"))))
	puts(t, lam("x", v("x")), "x", v("z"), lam("x", v("x")))
	puts(t, lam("y", v("z")), "x", v("y"), lam("y", v("z")))
}

// TestExampleFreeAlpha is the chapter's example 2.
func TestExampleFreeAlpha(t *testing.T) {
	x := choose(v("a"), "x", app(v("x"), v("b")), "y", lam("c", app(v("c"), v("y"))))
	frees(t, x, "a", "b")
	parses(t, formula.New(), "case a of x => x b | y => fun c => c y", x)
	alpha(t, lam("x", v("x")), lam("y", v("y")), true)
	alpha(t, lam("x", v("y")), lam("y", v("y")), false)
}

// TestExamplePrint is the chapter's example 3.
func TestExamplePrint(t *testing.T) {
	prints(t, formula.New(), app(of(api.TFst, v("a")), app(v("b"), v("c"))), "fst a (b c)")
	prints(t, formula.New(), of(api.TFst, lam("x", v("x"))), "fst (fun x => x)")
}

// TestExampleParse is the chapter's example 4.
func TestExampleParse(t *testing.T) {
	refuses(t, formula.New(), "fun x => ", api.ErrParse, 9)
	parses(t, formula.New(), "(x : p -> q) y", app(the(v("x"), 2), v("y")), atom("p"), atom("q"), join(api.KImp, 0, 1))
	inner := choose(v("b"), "y", v("y"), "z", v("z"))
	parses(t, formula.New(), "case a of x => case b of y => y | z => z | w => w", choose(v("a"), "x", inner, "w", v("w")))
}
