package types_test

import (
	"testing"

	"dictum/api"
	"dictum/formula"
	"dictum/syntax"
	"dictum/term"
)

// exampleTable has the rows of the chapter's examples.
func exampleTable(t *testing.T) *formula.Table {
	return made(t, atom("p"), atom("q"), join(api.KAnd, 0, 1), join(api.KImp, 2, 0), bot())
}

func TestExampleOne(t *testing.T) {
	f := exampleTable(t)
	x := lam("x", fst(v("x")))
	takes(t, f, nil, x, 3)
	refuses(t, f, nil, x, 2, api.ErrType)
	untold(t, f, []api.Hyp{hyp("x", 0)}, fst(v("x")), api.ErrType)
	for form := range 5 {
		refuses(t, f, []api.Hyp{hyp("x", 0)}, fst(v("x")), form, api.ErrType)
	}
}

func TestExampleTwo(t *testing.T) {
	f := exampleTable(t)
	refuses(t, f, nil, lam("x", snd(v("x"))), 3, api.ErrType, 0)
	refuses(t, f, nil, lam("x", fst(v("y"))), 3, api.ErrName, 0, 0)
	x := app(lam("x", v("x")), v("y"))
	untold(t, f, nil, x, api.ErrUnsaid)
	for form := range 5 {
		refuses(t, f, nil, x, form, api.ErrUnsaid, 0)
	}
}

func TestExampleThree(t *testing.T) {
	f := exampleTable(t)
	takes(t, f, []api.Hyp{hyp("x", 4)}, abort(v("x")), 1)
	x, fault := term.Parse(f, "let y = (x : p & q) in fst y")
	if fault != (api.Fault{}) || f.Len() != 5 {
		t.Fatal(fault, f.Len())
	}
	tells(t, f, []api.Hyp{hyp("x", 2)}, x, 0)
}

// TestExampleReadme: what README.md tells of this layer.
func TestExampleReadme(t *testing.T) {
	f := formula.New()
	x, first := term.Parse(f, "fun x => (snd x, fst (x : p & q))")
	a, second := syntax.Parse(f, "p & q -> q & p")
	y, third := term.Parse(f, "fst x")
	if none := (api.Fault{}); first != none || second != none || third != none || f.Len() != 5 || a != 4 {
		t.Fatal(first, second, third, f.Len(), a)
	}
	takes(t, f, nil, x, a)
	hyps := []api.Hyp{hyp("x", 3)}
	tells(t, f, hyps, y, 1)
	refuses(t, f, hyps, y, 0, api.ErrType)
}
