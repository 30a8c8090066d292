package counter_test

import (
	"slices"
	"testing"

	"dictum/api"
	"dictum/counter"
	"dictum/formula"
	"dictum/search"
	"dictum/sequent"
)

// exampleTable is the table of the chapter's examples.
func exampleTable(t *testing.T) *formula.Table {
	t.Helper()
	return made(t, atom("p"), atom("q"), bot(), join(api.KOr, 0, 1), join(api.KImp, 0, 2), join(api.KOr, 0, 4))
}

// exampleSteps are those of the chapter's example 1.
func exampleSteps() []api.Step {
	return []api.Step{stuck(seq(0)), stuck(seq(2, 0)), refuted(seq(4), api.RuleImpR, 4, 1), stuck(seq(5), 0, 2)}
}

// exampleModel is that of the chapter's example 1.
func exampleModel() api.Model { return with(up(to(1, 2), nil, nil), "", "p", "") }

// TestExampleModel is the chapter's example 1.
func TestExampleModel(t *testing.T) {
	x, steps := exampleTable(t), exampleSteps()
	if w, e := counter.World(x, steps, 3); w != 3 || e != api.OK {
		t.Error(w, e)
	}
	if w, e := counter.World(x, steps, 2); w != 1 || e != api.OK {
		t.Error(w, e)
	}
	m, l, e := counter.Model(x, steps, 3)
	if !alike(m, exampleModel()) || !slices.Equal(l, to(3, 1, 0)) || e != api.OK {
		t.Error(show(m), l, e)
	}
}

// TestExampleShrink is the chapter's example 2.
func TestExampleShrink(t *testing.T) {
	x, m := exampleTable(t), exampleModel()
	n, l, e := counter.Shrink(x, m, seq(5))
	if !alike(n, with(chain(2), "", "p")) || !slices.Equal(l, to(0, 1)) || e != api.OK {
		t.Error(show(n), l, e)
	}
	n, l, e = counter.Shrink(x, m, seq(0))
	if !alike(n, apart(1)) || !slices.Equal(l, to(0)) || e != api.OK {
		t.Error(show(n), l, e)
	}
}

// TestExampleProved is the chapter's example 3.
func TestExampleProved(t *testing.T) {
	x := exampleTable(t)
	steps := append(exampleSteps(), proved(seq(0, 0), api.RuleId, 0))
	m, l, e := counter.Model(x, steps, 4)
	if !empty(m) || len(l) != 0 || e != api.ErrArg {
		t.Error(show(m), l, e)
	}
}

// TestReadme is what README.md shows.
func TestReadme(t *testing.T) {
	x := formula.New()
	s, _ := sequent.Parse(x, "|- p | ~p")
	found, _ := search.Run(x, s, api.MaxVisits)
	last := len(found.Steps) - 1
	if w, e := counter.World(x, found.Steps, 2); last != 3 || w != 1 || e != api.OK {
		t.Error(last, w, e)
	}
	m, l, e := counter.Model(x, found.Steps, last)
	if !alike(m, with(up(to(1, 2), nil, nil), "", "p", "")) || !slices.Equal(l, to(3, 1, 0)) || e != api.OK {
		t.Error(show(m), l, e)
	}
	if ok, e := counter.Refutes(x, m, 0, s); !ok || e != api.OK {
		t.Error(ok, e)
	}
	if ok, e := counter.Refutes(x, m, 1, s); ok || e != api.OK {
		t.Error(ok, e)
	}
	n, l, e := counter.Shrink(x, m, s)
	if !alike(n, with(chain(2), "", "p")) || !slices.Equal(l, to(0, 1)) || e != api.OK {
		t.Error(show(n), l, e)
	}
	u, _ := sequent.Parse(x, "|- q -> q")
	if _, _, e := counter.Shrink(x, m, u); e != api.ErrMorph {
		t.Error(e)
	}
}
