package decide_test

import (
	"slices"
	"testing"

	"dictum/api"
	"dictum/decide"
	"dictum/formula"
	"dictum/term"
)

// TestFormKnown: P21.1, formulas that are known to be proved, or not to be.
func TestFormKnown(t *testing.T) {
	for _, text := range provedTexts() {
		x := formula.New()
		if a, e := heldForm(t, x, read(t, x, text)); !a.Proved || e != api.OK {
			t.Errorf("%s: %s, error %d", text, show(a), e)
		}
	}
	for _, text := range refutedTexts() {
		x := formula.New()
		if a, e := heldForm(t, x, read(t, x, text)); a.Proved || e != api.OK {
			t.Errorf("%s: %s, error %d", text, show(a), e)
		}
	}
}

// TestFormTerms: P21.1, the terms of some formulas, written out.
func TestFormTerms(t *testing.T) {
	for text, want := range map[string]string{
		"true":                 "fun h0 => abort h0",
		"p -> p":               "fun h0 => h0",
		"false -> p":           "fun h0 => abort h0",
		"p -> q -> p":          "fun h0 => fun h1 => h0",
		"p & q -> q":           "fun h2 => let h0 = fst h2 in let h1 = snd h2 in h1",
		"p -> p & p":           "fun h0 => (h0, h0)",
		"p -> q | p":           "fun h0 => inr h0",
		"p | q -> q | p":       "fun h2 => case h2 of h0 => inr h0 | h1 => inl h1",
		"p -> (p -> q) -> q":   "fun h0 => fun h2 => let h1 = h2 h0 in h1",
		"(p & q -> r) -> true": "fun h4 => let h9 = (fun h0 => fun h1 => h4 (h0, h1) : p -> q -> r) in fun h5 => abort h5",
	} {
		x := formula.New()
		a, e := heldForm(t, x, read(t, x, text))
		if e != api.OK {
			t.Fatal(text, e)
		}
		if got, _ := term.Print(made(t, a.Rows...), a.Term); got != want {
			t.Errorf("%s: %s, not %s", text, got, want)
		}
	}
}

// TestFormModels: P21.1, the models of some formulas, written out.
func TestFormModels(t *testing.T) {
	for text, want := range map[string]api.Model{
		"p":                    up(nil),
		"false":                up(nil),
		"p -> q":               with(up(nil), "p"),
		"~p":                   with(up(nil), "p"),
		"q -> p -> r":          with(up(nil), "p,q"),
		"p | q":                up(to(1, 2), nil, nil),
		"p | p":                up(to(1), nil),
		"~p | p":               with(up(to(1, 2), nil, nil), "", "", "p"),
		"~~p -> p":             with(up(to(1), nil), "", "p"),
		"p & (q -> q)":         up(nil),
		"(p -> q) | (q -> p)":  with(up(to(1, 2), nil, nil), "", "q", "p"),
		"(p -> p) & (p | ~p)":  with(up(to(1, 2), nil, nil), "", "p", ""),
		"((p -> q) -> p) -> p": with(up(to(1), nil), "", "p"),
	} {
		x := formula.New()
		a, e := heldForm(t, x, read(t, x, text))
		if !alikeModel(a.Model, want) || a.Proved || e != api.OK {
			t.Errorf("%s: %s, error %d", text, show(a), e)
		}
	}
}

// TestFormRows: P21.1, Rows are those of the table and, behind them, the search's; all else of the table is there, too, and the table itself gets none.
func TestFormRows(t *testing.T) {
	x := made(t, atom("z"), atom("p"), bot(), atom("q"), join(api.KAnd, 1, 3), imp(4, 2), imp(5, 2), imp(2, 1))
	rows := x.Rows()
	a, e := heldForm(t, x, 6) // ~~(p & q)
	want := append(rows, imp(3, 2), imp(1, 8))
	if !slices.Equal(a.Rows, want) || a.Form != 6 || a.Proved || e != api.OK {
		t.Errorf("%s, error %d: rows %v, not %v", show(a), e, a.Rows, want)
	}
	for id := range rows {
		a, e := heldForm(t, x, id)
		if !slices.Equal(a.Rows[:len(rows)], rows) || a.Form != id || e != api.OK {
			t.Errorf("%d: %s, error %d: rows %v", id, show(a), e, a.Rows)
		}
	}
}

// TestFormVisits: P21.1, Visits are the search's, and not the steps of the term or the worlds.
func TestFormVisits(t *testing.T) {
	for text, want := range map[string]int{"p": 1, "p -> p": 2, "p | ~p": 4, "(p -> p) & (p -> p)": 3, "p & q": 2, "q -> p & p": 3, "(p -> p) & (q -> q)": 5, "(p -> p) | p": 3, "p | (p -> p)": 4, "(p | p) | p": 3} {
		x := formula.New()
		if a, e := heldForm(t, x, read(t, x, text)); a.Visits != want || e != api.OK {
			t.Errorf("%s: %s, error %d, not %d visits", text, show(a), e, want)
		}
	}
}

// TestFormSmall: P21.1, all formulas of a table that has all small ones.
func TestFormSmall(t *testing.T) {
	x := made(t, atom("p"), bot())
	for a := range 2 {
		for b := range 2 {
			for k := api.KAnd; k <= api.KImp; k++ {
				x.Put(join(k, a, b))
			}
		}
	}
	few := x.Len()
	for a := range few {
		for b := range few {
			for k := api.KAnd; k <= api.KImp; k++ {
				x.Put(join(k, a, b))
			}
		}
	}
	proved := 0
	for id := range x.Len() {
		if a, e := heldForm(t, x, id); e != api.OK {
			t.Error(id, e)
		} else if a.Proved {
			proved++
		}
	}
	if proved < 100 || x.Len()-proved < 100 {
		t.Errorf("%d of %d are proved", proved, x.Len())
	}
}

// TestFormChance: P21.1, formulas by chance.
func TestFormChance(t *testing.T) {
	chance := newChance(1)
	got := map[api.Errno]int{}
	proved := 0
	for range 1500 {
		x := made(t, someRows(chance, 2+chance.IntN(50), 1+chance.IntN(20), 1+chance.IntN(5))...)
		a, e := heldForm(t, x, x.Len()-1-chance.IntN(min(5, x.Len())))
		got[e]++
		if a.Proved {
			proved++
		}
	}
	if proved < 300 || got[api.OK]-proved < 300 || got[api.ErrBudget] < 5 {
		t.Error(proved, got)
	}
}

// TestFormAgain: R4, what was asked ahead turns nothing.
func TestFormAgain(t *testing.T) {
	x, ids := readAll(t, "p | ~p", "~~(p | ~p)", "(p & q -> r) -> p -> r")
	for range 3 {
		for _, id := range ids {
			heldForm(t, x, id)
		}
		decide.Form(x, x.Len())
		decide.Form(nil, 0)
	}
	rows := x.Len()
	id := read(t, x, "p & r -> q") // the table has grown, and is cut again
	heldForm(t, x, id)
	x.Cut(rows)
	refusesForm(t, x, id, api.ErrForm)
	heldForm(t, x, ids[2])
}
