package hilbert_test

import (
	"slices"
	"testing"

	"dictum/api"
	"dictum/formula"
	"dictum/hilbert"
	"dictum/syntax"
	"dictum/term"
)

// TestExampleDeduce is the chapter's example 1.
func TestExampleDeduce(t *testing.T) {
	f := rowsOf(t, "p", "p -> p")
	one := []api.Line{hyp(0)}
	lines, e := hilbert.Deduce(f, []int{0}, one, 0)
	if e != api.OK || len(lines) != 5 || lines[4].Form != 1 {
		t.Fatal(showLines(lines), e)
	}
	rightTells(t, f, nil, lines, 1)
	g := rowsOf(t, "p", "p -> p")
	same, e := hilbert.Compile(g, nil, lam("x", v("x")), 1)
	if e != api.OK || !slices.Equal(same, lines) || !slices.Equal(f.Rows(), g.Rows()) {
		t.Error(showLines(same), e, g.Rows())
	}
}

// TestExampleTerm is the chapter's example 2.
func TestExampleTerm(t *testing.T) {
	f := rowsOf(t, "p", "p -> p")
	x, e := hilbert.Term(f, []int{0}, []api.Line{hyp(0)})
	if text, fault := term.Print(f, x); text != "let l0 = h0 in l0" || e != api.OK || fault != api.OK {
		t.Error(text, e, fault)
	}
	if e := hilbert.Check(f, nil, nil); e != api.ErrProof {
		t.Error(e)
	}
}

// TestExampleIs is the chapter's example 3.
func TestExampleIs(t *testing.T) {
	f := rowsOf(t, "p", "p -> p", "p -> (p -> p)")
	if is, e := hilbert.Is(f, api.LineK, 2); !is || e != api.OK {
		t.Error(is, e)
	}
	if is, e := hilbert.Is(f, api.LineS, 1); is || e != api.OK {
		t.Error(is, e)
	}
}

// TestReadme is what README.md shows.
func TestReadme(t *testing.T) {
	f := formula.New()
	a, _ := syntax.Parse(f, "p & q -> q")
	ax, e := hilbert.Is(f, api.LineSnd, a)
	if !ax || e != api.OK {
		t.Error(ax, e)
	}
	lines := []api.Line{
		{Kind: api.LineHyp, Form: 2},
		{Kind: api.LineSnd, Form: 3},
		{Kind: api.LineMP, Form: 1, A: 1, B: 0},
	}
	rightTells(t, f, []int{2}, lines, 1)
	l, e := hilbert.Deduce(f, []int{2}, lines, 2)
	if len(l) != 11 || e != api.OK {
		t.Error(showLines(l), e)
	}
	rightTells(t, f, nil, l, 3)
	y, e := hilbert.Term(f, []int{2}, lines)
	if text, _ := term.Print(f, y); text != "let l0 = h2 in let l1 = (fun a => snd a : p & q -> q) in let l2 = l1 l0 in l2" || e != api.OK {
		t.Error(text, e)
	}
	x, _ := term.Parse(f, "fun x => snd x")
	m, e := hilbert.Compile(f, nil, x, a)
	if !slices.Equal(m, l) || e != api.OK {
		t.Error(showLines(m), e)
	}
}
