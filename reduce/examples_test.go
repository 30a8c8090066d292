package reduce_test

import (
	"testing"

	"dictum/api"
	"dictum/formula"
	"dictum/reduce"
	"dictum/term"
)

// exampleTable has the examples' rows: p 0, p -> p 1.
func exampleTable(t *testing.T) *formula.Table {
	return made(t, atom("p"), join(api.KImp, 0, 0))
}

// TestExampleBeside is the chapter's example 1.
func TestExampleBeside(t *testing.T) {
	f := exampleTable(t)
	x := app(the(lam("x", v("x")), 1), v("y"))
	twice := the(the(v("y"), 0), 0)
	does(t, f, x, nil, twice)
	finds(t, f, twice, nil, []int{0})
	runs(t, f, x, 9, v("y"), 3, true, api.OK)
}

// TestExampleEndless is the chapter's example 2.
func TestExampleEndless(t *testing.T) {
	f := exampleTable(t)
	self := lam("x", app(v("x"), v("x")))
	x := app(self, clone(self))
	runs(t, f, x, 5, x, 5, false, api.OK)
	finds(t, f, x, nil)
}

// TestExampleNothing is the chapter's example 3.
func TestExampleNothing(t *testing.T) {
	f := exampleTable(t)
	undone(t, f, v("x"), nil, api.ErrRedex)
	undone(t, f, v("x"), []int{}, api.ErrRedex)
	x := fst(the(pair(v("a"), v("b")), 0))
	finds(t, f, x)
	undone(t, f, x, nil, api.ErrRedex)
}

// TestReadme is what README.md shows.
func TestReadme(t *testing.T) {
	f := formula.New()
	x := read(t, f, "fst ((fun x => (x, x) : p -> p & p) y)")
	finds(t, f, x, []int{0})
	y, e := reduce.Do(f, x, []int{0})
	if text, _ := term.Print(f, y); e != api.OK || text != "fst (((y : p), (y : p)) : p & p)" {
		t.Error(text, e)
	}
	z, many, normal, e := reduce.Run(f, x, api.MaxFuel)
	if text, _ := term.Print(f, z); e != api.OK || text != "y" || many != 4 || !normal {
		t.Error(text, many, normal, e)
	}
	w, e := reduce.Strip(x)
	if text, _ := term.Print(f, w); e != api.OK || text != "fst ((fun x => (x, x)) y)" {
		t.Error(text, e)
	}
}
