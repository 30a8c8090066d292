package force_test

import (
	"slices"
	"testing"

	"dictum/api"
	"dictum/force"
	"dictum/formula"
	"dictum/sequent"
	"dictum/syntax"
)

// exampleTable has the chapter's formulas: p 0, false 1, ~p 2, p | ~p 3, ~~p 4.
func exampleTable(t *testing.T) *formula.Table {
	return made(t, api.Node{Kind: api.KAtom, Name: "p"}, api.Node{Kind: api.KBot}, join(api.KImp, 0, 1), join(api.KOr, 0, 2), join(api.KImp, 2, 1))
}

func exampleModel() api.Model {
	return api.Model{Up: [][]int{{1}, {}}, Val: [][]string{{}, {"p"}}}
}

// TestExampleForced is the chapter's example 1.
func TestExampleForced(t *testing.T) {
	x, m := exampleTable(t), exampleModel()
	for _, c := range []struct {
		w, id int
		want  bool
	}{{0, 3, false}, {1, 3, true}, {0, 4, true}} {
		if is, e := force.At(x, m, c.w, c.id); is != c.want || e != api.OK {
			t.Errorf("At(%d, %d): %v, error %d", c.w, c.id, is, e)
		}
	}
	if l, e := force.Worlds(x, m, 4); !slices.Equal(l, to(0, 1)) || e != api.OK {
		t.Error(l, e)
	}
	if all, e := force.All(x, m, 0); all != set(4) || e != api.OK {
		t.Error(numbers(all), e)
	}
	if all, e := force.All(x, m, 1); all != set(0, 3, 4) || e != api.OK {
		t.Error(numbers(all), e)
	}
	if is, e := force.Valid(x, m, 3); is || e != api.OK {
		t.Error(is, e)
	}
}

// TestExampleRefuted is the chapter's example 2.
func TestExampleRefuted(t *testing.T) {
	x, m := exampleTable(t), exampleModel()
	if is, e := force.Holds(x, m, seq(0, 4)); is || e != api.OK {
		t.Error(is, e)
	}
	is, got, e := force.Frame(x, m, 3)
	if is || !alike(got, with(up(to(1), nil), "", "p")) || e != api.OK {
		t.Error(is, show(got), e)
	}
}

// TestExampleOneWorld is the chapter's example 3.
func TestExampleOneWorld(t *testing.T) {
	x := exampleTable(t)
	if is, got, e := force.Frame(x, apart(1), 3); !is || !empty(got) || e != api.OK {
		t.Error(is, show(got), e)
	}
}

// TestReadme is what README.md shows.
func TestReadme(t *testing.T) {
	x := formula.New()
	m := api.Model{Up: [][]int{{1}, {}}, Val: [][]string{{}, {"p"}}}
	a, f := syntax.Parse(x, "p | ~p")
	if f.Code != api.OK || a != 3 {
		t.Fatal(a, f)
	}
	if ok, e := force.At(x, m, 1, a); !ok || e != api.OK {
		t.Error(ok, e)
	}
	if l, e := force.Worlds(x, m, a); !slices.Equal(l, to(1)) || e != api.OK {
		t.Error(l, e)
	}
	if ok, e := force.Valid(x, m, a); ok || e != api.OK {
		t.Error(ok, e)
	}
	if all, e := force.All(x, m, 1); all != set(0, 3) || e != api.OK {
		t.Error(numbers(all), e)
	}
	s, f := sequent.Parse(x, "~~p |- p")
	if f.Code != api.OK {
		t.Fatal(f)
	}
	if ok, e := force.Holds(x, m, s); ok || e != api.OK {
		t.Error(ok, e)
	}
	b, f := syntax.Parse(x, "(p -> q) | (q -> p)")
	if f.Code != api.OK {
		t.Fatal(f)
	}
	if ok, _, e := force.Frame(x, m, b); !ok || e != api.OK {
		t.Error(ok, e)
	}
	fork := api.Model{Up: [][]int{{1, 2}, {}, {}}, Val: make([][]string, 3)}
	ok, n, e := force.Frame(x, fork, b)
	if ok || !alike(n, with(up(to(1, 2), nil, nil), "", "p", "q")) || e != api.OK {
		t.Error(ok, show(n), e)
	}
}
