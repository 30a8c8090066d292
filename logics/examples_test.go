package logics_test

import (
	"slices"
	"testing"

	"dictum/api"
	"dictum/formula"
	"dictum/logics"
	"dictum/syntax"
)

// TestExampleAxiom is the chapter's example 1.
func TestExampleAxiom(t *testing.T) {
	x := formula.New()
	id, e := logics.Axiom(x, api.LogicKC, 0)
	if id != 4 || e != api.OK || !slices.Equal(x.Rows(), []api.Node{atom("p"), bot(), imp(0, 1), imp(2, 1), or(2, 3)}) {
		t.Error(id, e, x.Rows())
	}
	x = formula.New()
	id, e = logics.Axiom(x, api.LogicBD, 2)
	if id != read(t, x.Copy(), "p2 | (p2 -> (p1 | ~p1))") || e != api.OK {
		t.Error(id, e, x.Rows())
	}
	x = formula.New()
	id, e = logics.Axiom(x, api.LogicLC, 1)
	if id != 0 || e != api.ErrLogic || x.Len() != 0 {
		t.Error(id, e, x.Rows())
	}
}

// TestExampleFits is the chapter's example 2.
func TestExampleFits(t *testing.T) {
	fork := up(to(1, 2), nil, nil)
	for _, c := range []struct {
		k    api.Logic
		n    int
		want bool
	}{{api.LogicKC, 0, false}, {api.LogicLC, 0, false}, {api.LogicBD, 2, true}, {api.LogicKP, 0, true}} {
		if is, e := logics.Fits(fork, c.k, c.n); is != c.want || e != api.OK {
			t.Error(c, is, e)
		}
	}
}

// TestExampleChain is the chapter's example 3.
func TestExampleChain(t *testing.T) {
	x := formula.New()
	if is, by, e := logics.Dummett(x, read(t, x, "(p -> q) | (q -> p)")); !is || len(by) != 0 || e != api.OK {
		t.Error(is, by, e)
	}
	if is, by, e := logics.Dummett(x, read(t, x, "p | ~p")); is || !slices.Equal(by, hyps("p 1")) || e != api.OK {
		t.Error(is, by, e)
	}
	if v, e := logics.Value(x, read(t, x, "~p"), 2, hyps("p 1")); v != 0 || e != api.OK {
		t.Error(v, e)
	}
	if m, e := logics.Model(2, hyps("p 1")); !alike(m, with(up(to(1), nil), "", "p")) || e != api.OK {
		t.Error(show(m), e)
	}
}

// TestReadme holds what README.md tells of this layer.
func TestReadme(t *testing.T) {
	x := formula.New()
	a, e := logics.Axiom(x, api.LogicKC, 0)
	if s, _ := syntax.Print(x, a); s != "~p | ~~p" || e != api.OK {
		t.Error(s, e)
	}
	b, e := logics.Axiom(x, api.LogicBD, 2)
	if s, _ := syntax.Print(x, b); s != "p2 | (p2 -> p1 | ~p1)" || e != api.OK {
		t.Error(s, e)
	}
	m := up(to(1, 2), nil, nil)
	if is, e := logics.Fits(m, api.LogicKC, 0); is || e != api.OK {
		t.Error(is, e)
	}
	if is, e := logics.Fits(m, api.LogicBD, 2); !is || e != api.OK {
		t.Error(is, e)
	}
	c := read(t, x, "(p -> q) | (q -> p)")
	if v, e := logics.Value(x, c, 3, hyps("p 2 q 1")); v != 3 || e != api.OK {
		t.Error(v, e)
	}
	if is, _, e := logics.Dummett(x, c); !is || e != api.OK {
		t.Error(is, e)
	}
	d := read(t, x, "((p -> q) -> p) -> p")
	is, by, e := logics.Dummett(x, d)
	if is || !slices.Equal(by, hyps("p 1 q 0")) || e != api.OK {
		t.Error(is, by, e)
	}
	if n, e := logics.Model(3, by); !alike(n, with(up(to(1), to(2), nil), "", "", "p")) || e != api.OK {
		t.Error(show(n), e)
	}
	r, e := logics.Reduce(x, read(t, x, "p -> q"))
	if s, _ := syntax.Print(x, r); s != "((p -> q) | (q -> p)) & ((p -> p -> q) | ((p -> q) -> p)) & ((q -> p -> q) | ((p -> q) -> q)) -> p -> q" || e != api.OK {
		t.Error(s, e)
	}
}
