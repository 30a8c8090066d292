package force_test

import (
	"testing"

	"dictum/api"
	"dictum/force"
	"dictum/formula"
)

// refuses asks for that error of every call that is handed these, beside nothing; the sequents have the number in their left side, where there is room for it, and as their goal. Calls that are not handed w are asked if it is not why others refuse.
func refuses(t *testing.T, x *formula.Table, m api.Model, w, id int, want api.Errno) {
	t.Helper()
	untouched(t, x, m, func() {
		if is, e := force.At(x, m, w, id); is || e != want {
			t.Errorf("At(%s, %d, %d): %v, error %d, not %d", show(m), w, id, is, e, want)
		}
		if want == api.ErrArg {
			return
		}
		if l, e := force.Worlds(x, m, id); len(l) != 0 || e != want {
			t.Errorf("Worlds(%s, %d): %v, error %d, not %d", show(m), id, l, e, want)
		}
		if is, e := force.Valid(x, m, id); is || e != want {
			t.Errorf("Valid(%s, %d): %v, error %d, not %d", show(m), id, is, e, want)
		}
		if is, got, e := force.Frame(x, m, id); is || !empty(got) || e != want {
			t.Errorf("Frame(%s, %d): %v, %s, error %d, not %d", show(m), id, is, show(got), e, want)
		}
		sequents := []api.Seq{seq(id), seq(id, 0)}
		if id >= 0 && id < api.MaxForms {
			sequents = append(sequents, seq(0, id), seq(0, 0, id), seq(id, 0, id))
		}
		for _, s := range sequents {
			if is, e := force.Holds(x, m, s); is || e != want {
				t.Errorf("Holds(%s, %v |- %d): %v, error %d, not %d", show(m), numbers(s.Left), s.Goal, is, e, want)
			}
		}
	})
}

// refusesAll asks for that error of All beside nothing.
func refusesAll(t *testing.T, x *formula.Table, m api.Model, w int, want api.Errno) {
	t.Helper()
	untouched(t, x, m, func() {
		if all, e := force.All(x, m, w); all != (api.Bits{}) || e != want {
			t.Errorf("All(%s, %d): %v, error %d, not %d", show(m), w, numbers(all), e, want)
		}
	})
}

// TestRefusedTable: ErrNil comes first, whatever else is wrong.
func TestRefusedTable(t *testing.T) {
	for _, x := range noMade() {
		for _, m := range append(noModels(), exampleModel(), apart(6)) {
			for _, w := range []int{0, 1, -1, 600} {
				refuses(t, x, m, w, 0, api.ErrNil)
				refuses(t, x, m, w, -1, api.ErrNil)
				refusesAll(t, x, m, w, api.ErrNil)
			}
		}
	}
}

// TestRefusedModel: ErrModel comes second, whatever the numbers are, with rows in the table and without.
func TestRefusedModel(t *testing.T) {
	for _, x := range []*formula.Table{exampleTable(t), formula.New()} {
		for _, m := range noModels() {
			for _, w := range []int{0, 1, -1, len(m.Up), 600} {
				for _, id := range []int{0, 3, -1, 99, 5000} {
					refuses(t, x, m, w, id, api.ErrModel)
				}
				refusesAll(t, x, m, w, api.ErrModel)
			}
		}
	}
}

// TestRefusedWorld: ErrArg of what is no world comes third, ahead of ErrForm.
func TestRefusedWorld(t *testing.T) {
	for _, x := range []*formula.Table{exampleTable(t), formula.New()} {
		for _, m := range []api.Model{exampleModel(), apart(1), chain(65), chain(api.MaxWorlds)} {
			for _, w := range noWorlds(len(m.Up)) {
				for _, id := range []int{0, 4, 5, -1, 5000} {
					refuses(t, x, m, w, id, api.ErrArg)
				}
				refusesAll(t, x, m, w, api.ErrArg)
			}
		}
	}
}

// TestRefusedFormula: ErrForm of what is no formula's number, of Frame ahead of ErrArg.
func TestRefusedFormula(t *testing.T) {
	cut := exampleTable(t)
	cut.Cut(3)
	for _, x := range []*formula.Table{exampleTable(t), cut, formula.New()} {
		for _, m := range []api.Model{exampleModel(), apart(5), apart(6), chain(api.MaxWorlds)} {
			for _, id := range noForms(x.Len()) {
				refuses(t, x, m, 0, id, api.ErrForm)
				refuses(t, x, m, len(m.Up)-1, id, api.ErrForm)
			}
		}
	}
}

// TestRefusedFull: of a full table each number has a formula, and the next one none.
func TestRefusedFull(t *testing.T) {
	x := doubling(t, api.KOr, api.MaxForms)
	m := exampleModel()
	for _, id := range noForms(x.Len()) {
		refuses(t, x, m, 1, id, api.ErrForm)
	}
	if is, e := force.At(x, m, 1, api.MaxForms-1); !is || e != api.OK {
		t.Error(is, e)
	}
	if is, e := force.Holds(x, m, seq(api.MaxForms-1, api.MaxForms-2)); !is || e != api.OK {
		t.Error(is, e)
	}
}

// TestRefusedLeft: ErrForm, if one number of many on the left side is no formula's.
func TestRefusedLeft(t *testing.T) {
	x, m := exampleTable(t), exampleModel()
	for id := x.Len(); id < api.MaxForms; id++ {
		if is, e := force.Holds(x, m, seq(0, 0, 1, 4, id)); is || e != api.ErrForm {
			t.Errorf("%d on the left: %v, error %d", id, is, e)
		}
	}
}

// TestEmptyTable: a table without rows has a set of what is forced, which is empty.
func TestEmptyTable(t *testing.T) {
	x := formula.New()
	for _, m := range []api.Model{exampleModel(), apart(1), chain(api.MaxWorlds)} {
		refusesAll(t, x, m, 0, api.OK)
		refusesAll(t, x, m, len(m.Up)-1, api.OK)
	}
}

// TestFrameTooMuch: P18.3, ErrArg of a sixth world and of a fourth atom, and not of a fifth and a third one.
func TestFrameTooMuch(t *testing.T) {
	x := formula.New()
	three := read(t, x, "p -> q -> p & q & r & p")
	four := read(t, x, "p -> q -> p & q & r & s")
	none := read(t, x, "~false")
	frame := func(m api.Model, id int, is bool, want api.Errno) {
		t.Helper()
		untouched(t, x, m, func() {
			got, other, e := force.Frame(x, m, id)
			if got != is || empty(other) != (is || e != api.OK) || e != want {
				t.Errorf("Frame(%s, %s): %v, %s, error %d", show(m), text(x, id), got, show(other), e)
			}
		})
	}
	for _, build := range []func(int) api.Model{chain, apart} {
		for many := 1; many <= 5; many++ {
			frame(build(many), three, false, api.OK)
			frame(build(many), none, true, api.OK)
			frame(build(many), four, false, api.ErrArg)
		}
		for _, many := range []int{6, 7, 64, 65, api.MaxWorlds} {
			frame(build(many), three, false, api.ErrArg)
			frame(build(many), none, false, api.ErrArg)
			frame(build(many), four, false, api.ErrArg)
		}
	}
}

// TestFrameUnlikeAtoms: P18.3, an atom counts once, and only those of the formula do.
func TestFrameUnlikeAtoms(t *testing.T) {
	x := formula.New()
	for i := range 20 {
		x.Atom("a" + string(rune('a'+i)))
	}
	id := read(t, x, "(aa -> ab) | (ab -> aa) | (ac & aa & ab & ac -> ac)")
	if is, got, e := force.Frame(x, with(apart(2), "zz", "a,b,c,d"), id); !is || !empty(got) || e != api.OK {
		t.Error(is, show(got), e)
	}
}
