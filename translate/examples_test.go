package translate_test

import (
	"testing"

	"dictum/api"
	"dictum/formula"
	"dictum/search"
	"dictum/sequent"
	"dictum/term"
	"dictum/translate"
	"dictum/types"
)

// TestExampleTerms is the chapter's example 1.
func TestExampleTerms(t *testing.T) {
	f := rowsOf(t, "p", "p -> p")
	steps := []api.Step{proved(seq(0, 0), api.RuleId, 0), proved(seq(1), api.RuleImpR, 1, 0)}
	gives(t, f, steps, 0, v("h0"))
	gives(t, f, steps, 1, api.Term{Kind: api.TLam, Name: "h0", Sub: []api.Term{v("h0")}})

	f = rowsOf(t, "p", "q", "p & q")
	found, e := search.Run(f, seq(1, 2), 9)
	if e != api.OK || len(found.Steps) != 2 {
		t.Fatal(found, e)
	}
	gives(t, f, found.Steps, 1, let("h0", of(api.TFst, v("h2")), let("h1", of(api.TSnd, v("h2")), v("h1"))))
	sizes(t, f, found.Steps, 1, 7, 4)
}

// TestExampleRefuted is the chapter's example 2.
func TestExampleRefuted(t *testing.T) {
	f := rowsOf(t, "p")
	refuses(t, f, []api.Step{stuck(seq(0))}, 0, api.ErrArg)
	if name := translate.Name(12); name != "h12" {
		t.Error(name)
	}
}

// TestReadme is what README.md shows.
func TestReadme(t *testing.T) {
	f := formula.New()
	s, _ := sequent.Parse(f, "p & q |- q | p")
	found, e := search.Run(f, s, api.MaxVisits)
	if e != api.OK || !found.Proved {
		t.Fatal(found, e)
	}
	last := len(found.Steps) - 1
	n, d, e := translate.Size(f, found.Steps, last)
	if n != 8 || d != 4 || e != api.OK {
		t.Error(n, d, e)
	}
	x, e := translate.Term(f, found.Steps, last)
	if text, _ := term.Print(f, x); text != "let h0 = fst h2 in let h1 = snd h2 in inl h1" || e != api.OK {
		t.Error(text, e)
	}
	hyps := translate.Hyps(s)
	if len(hyps) != 1 || hyps[0] != (api.Hyp{Name: "h2", Form: 2}) {
		t.Error(hyps)
	}
	if e := types.Check(f, hyps, x, s.Goal); e != api.OK {
		t.Error(e)
	}
}
