package counter_test

import (
	"testing"

	"dictum/api"
	"dictum/counter"
	"dictum/formula"
)

// refusesSteps asks for that error of World and Model, beside zeros and nothing.
func refusesSteps(t *testing.T, x *formula.Table, steps []api.Step, at int, want api.Errno) {
	t.Helper()
	untouched(t, x, steps, api.Model{}, func() {
		if w, e := counter.World(x, steps, at); w != 0 || e != want {
			t.Errorf("World of %d of %s: %d, error %d, not error %d", at, showSteps(steps), w, e, want)
		}
		if m, l, e := counter.Model(x, steps, at); !empty(m) || len(l) != 0 || e != want {
			t.Errorf("Model of %d of %s: %s of %v, error %d, not error %d", at, showSteps(steps), show(m), l, e, want)
		}
	})
}

// refusesWorld asks for that error of Refutes.
func refusesWorld(t *testing.T, x *formula.Table, m api.Model, w int, s api.Seq, want api.Errno) {
	t.Helper()
	untouched(t, x, nil, m, func() {
		if is, e := counter.Refutes(x, m, w, s); is || e != want {
			t.Errorf("Refutes(%s, %d, %s): %v, error %d, not error %d", show(m), w, showSeq(s), is, e, want)
		}
	})
}

// refusesShrink asks for that error of Shrink, beside nothing.
func refusesShrink(t *testing.T, x *formula.Table, m api.Model, s api.Seq, want api.Errno) {
	t.Helper()
	untouched(t, x, nil, m, func() {
		if n, l, e := counter.Shrink(x, m, s); !empty(n) || len(l) != 0 || e != want {
			t.Errorf("Shrink(%s, %s): %s of %v, error %d, not error %d", show(m), showSeq(s), show(n), l, e, want)
		}
	})
}

// wrongSteps are lists that are not right, with the table of the examples.
func wrongSteps() [][]api.Step {
	l := [][]api.Step{nil, {}, {stuck(seq(6))}, {stuck(seq(-1))}, {stuck(seq(0, 6))}, {stuck(seq(0, 1023))}, {stuck(seq(0), 0)}, {stuck(seq(5))}, {stuck(seq(0, 0))}, {proved(seq(0), api.RuleId, 0)}, {refuted(seq(0), 0, 0)}, {refuted(seq(4), api.RuleImpR, 4)}}
	for at := range 4 {
		turned := exampleSteps()
		turned[at].Main++
		kids := exampleSteps()
		kids[at].Kids = append(kids[at].Kids, 0)
		other := exampleSteps()
		other[at].Proved = true
		goal := exampleSteps()
		goal[at].Seq.Goal = 3
		l = append(l, turned, kids, other, goal, append(exampleSteps(), turned[at]))
	}
	return append(l, append(exampleSteps(), stuck(seq(5), 2, 0)), append(exampleSteps(), proved(seq(0, 0), api.RuleId, 1)), exampleSteps()[1:], exampleSteps()[2:])
}

// TestRefusedTable: R1, ErrNil comes first, whatever else is wrong.
func TestRefusedTable(t *testing.T) {
	for _, x := range noMade() {
		for _, steps := range append(wrongSteps(), exampleSteps()) {
			for _, at := range append(noPlaces(len(steps)), 0, 3) {
				refusesSteps(t, x, steps, at, api.ErrNil)
			}
		}
		for _, m := range append(noModels(), exampleModel(), apart(1)) {
			for _, s := range []api.Seq{{}, seq(0), seq(5), seq(-1), seq(1024), seq(0, 1023)} {
				for _, w := range append(noPlaces(len(m.Up)), 0, 2) {
					refusesWorld(t, x, m, w, s, api.ErrNil)
				}
				refusesShrink(t, x, m, s, api.ErrNil)
			}
		}
	}
}

// TestRefusedSteps: P20.1 and P20.2, ErrSteps comes next, of any step of the list, whatever the number is.
func TestRefusedSteps(t *testing.T) {
	x := exampleTable(t)
	for _, steps := range wrongSteps() {
		for _, at := range append(noPlaces(len(steps)), 0, 1, 2, 3) {
			refusesSteps(t, x, steps, at, api.ErrSteps)
		}
	}
	for _, at := range append(noPlaces(4), 0, 1, 2, 3) {
		refusesSteps(t, made(t, x.Rows()[:5]...), exampleSteps(), at, api.ErrSteps)
		refusesSteps(t, formula.New(), exampleSteps(), at, api.ErrSteps)
		refusesSteps(t, x, nil, at, api.ErrSteps)
	}
}

// TestRefusedAt: P20.1 and P20.2, ErrArg of a number that is no step's, and of a step that is proved.
func TestRefusedAt(t *testing.T) {
	x := exampleTable(t)
	steps := append(exampleSteps(), proved(seq(0, 0), api.RuleId, 0), proved(seq(3, 0), api.RuleOrR1, 3, 4), stuck(seq(1, 0)))
	right(t, x, steps)
	for _, at := range append(noPlaces(len(steps)), 4, 5) {
		refusesSteps(t, x, steps, at, api.ErrArg)
	}
	for _, at := range to(0, 1, 2, 3, 6) {
		heldStep(t, x, steps, at)
	}
	one := []api.Step{proved(seq(0, 0), api.RuleId, 0)}
	for _, at := range append(noPlaces(1), 0) {
		refusesSteps(t, x, one, at, api.ErrArg)
	}
	room := append(exampleSteps(), stuck(seq(1, 0)))[:4] // R7: a step behind the end is none
	refusesSteps(t, x, room, 4, api.ErrArg)
}

// TestRefusedModel: P20.3 and P20.4, ErrModel comes ahead of ErrArg and ErrForm.
func TestRefusedModel(t *testing.T) {
	x := exampleTable(t)
	for _, m := range noModels() {
		for _, s := range []api.Seq{{}, seq(5), seq(-1), seq(6), seq(1024), seq(0, 1023), seq(0, 0)} {
			for _, w := range append(noPlaces(len(m.Up)), 0, 1) {
				refusesWorld(t, x, m, w, s, api.ErrModel)
			}
			refusesShrink(t, x, m, s, api.ErrModel)
		}
	}
}

// TestRefusedWorld: P20.3, ErrArg of what is no world comes ahead of ErrForm.
func TestRefusedWorld(t *testing.T) {
	x := exampleTable(t)
	for _, m := range []api.Model{apart(1), exampleModel(), chain(api.MaxWorlds)} {
		for _, w := range noPlaces(len(m.Up)) {
			for _, s := range []api.Seq{{}, seq(5), seq(-1), seq(6), seq(0, 1023)} {
				refusesWorld(t, x, m, w, s, api.ErrArg)
			}
		}
	}
}

// noSeqs are sequents that have a number which is no formula's of the table of the examples.
func noSeqs() []api.Seq {
	var l []api.Seq
	for _, goal := range noPlaces(6) {
		l = append(l, seq(goal), seq(goal, 0), seq(goal, 0, 1, 2, 3, 4, 5))
	}
	for _, id := range to(6, 7, 63, 64, 65, 512, 1022, 1023) {
		l = append(l, seq(0, id), seq(5, id), seq(5, 0, 1, id), seq(2, id, 2), seq(id, id), seq(-1, id))
	}
	return l
}

// TestRefusedForm: P20.3 and P20.4, ErrForm of a sequent that is not right, whatever is forced; of Shrink ahead of ErrMorph.
func TestRefusedForm(t *testing.T) {
	x := exampleTable(t)
	for _, m := range []api.Model{apart(1), with(apart(1), "p,q"), exampleModel(), with(chain(3), "", "p", "p,q")} {
		for _, s := range noSeqs() {
			for w := range m.Up {
				refusesWorld(t, x, m, w, s, api.ErrForm)
			}
			refusesShrink(t, x, m, s, api.ErrForm)
		}
	}
	for _, s := range []api.Seq{{}, seq(0, 0), seq(0, 1)} {
		refusesWorld(t, formula.New(), apart(1), 0, s, api.ErrForm)
		refusesShrink(t, formula.New(), apart(1), s, api.ErrForm)
	}
	cut := exampleTable(t)
	cut.Cut(5)
	refusesWorld(t, cut, apart(1), 0, seq(5), api.ErrForm)
	refusesShrink(t, cut, apart(1), seq(5), api.ErrForm)
	refusesWorld(t, cut, apart(1), 0, seq(0, 5), api.ErrForm)
	if is, e := counter.Refutes(cut, apart(1), 0, seq(0, 4)); !is || e != api.OK {
		t.Error(is, e)
	}
}

// TestRefusedMorph: P20.4, ErrMorph unless world 0 refutes, whatever other worlds do.
func TestRefusedMorph(t *testing.T) {
	x := exampleTable(t)
	for _, c := range []struct {
		m api.Model
		s api.Seq
	}{
		{apart(1), seq(4)}, {apart(1), seq(5)}, {apart(1), seq(0, 0)}, {apart(1), seq(1, 0)}, {with(apart(1), "p"), seq(0)}, {with(apart(1), "p"), seq(3)}, {with(apart(1), "p"), seq(2, 4)},
		{exampleModel(), seq(2, 0)}, {exampleModel(), seq(2, 4)}, {exampleModel(), seq(5, 3)}, {with(up(nil, to(0)), "p", ""), seq(0)}, {with(apart(2), "p", ""), seq(0)}, {with(chain(2), "", "p"), seq(1, 0)},
	} {
		refusesShrink(t, x, c.m, c.s, api.ErrMorph)
		if heldSeq(t, x, c.m, c.s) != 0 {
			t.Errorf("%s refutes %s", show(c.m), showSeq(c.s))
		}
	}
}
