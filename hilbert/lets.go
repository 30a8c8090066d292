package hilbert

import (
	"slices"

	"dictum/api"
	"dictum/formula"
	"dictum/octet"
	"dictum/term"
)

// axiomTerms are the texts of the axioms' terms.
var axiomTerms = [...]string{
	api.LineK:    "fun a => fun b => a",
	api.LineS:    "fun a => fun b => fun c => a c (b c)",
	api.LineFst:  "fun a => fst a",
	api.LineSnd:  "fun a => snd a",
	api.LinePair: "fun a => fun b => (a, b)",
	api.LineInl:  "fun a => inl a",
	api.LineInr:  "fun a => inr a",
	api.LineCase: "fun a => fun b => fun c => case c of d => a d | e => b e",
	api.LineBot:  "fun a => abort a",
}

// lineName is the name of a line.
func lineName(at int) string { return "l" + octet.Dec(at) }

func variable(name string) api.Term { return api.Term{Kind: api.TVar, Name: name} }

// lets answers the term of right lines (P16.5).
func lets(t *formula.Table, lines []api.Line) (api.Term, api.Errno) {
	if len(lines) >= api.MaxDeep { // a level each, and one for the name behind them: not made to be counted only
		return api.Term{}, api.ErrBig
	}
	x := variable(lineName(len(lines) - 1))
	for i, line := range slices.Backward(lines) {
		x = api.Term{Kind: api.TLet, Name: lineName(i), Sub: []api.Term{given(t, line), x}}
	}
	if term.Size(x) > api.MaxTerm || term.Deep(x) > api.MaxDeep {
		return api.Term{}, api.ErrBig
	}
	return x, api.OK
}

// given answers what a line's let gives its name.
func given(t *formula.Table, line api.Line) api.Term {
	switch line.Kind {
	case api.LineHyp:
		return variable("h" + octet.Dec(line.Form))
	case api.LineMP:
		return api.Term{Kind: api.TApp, Sub: []api.Term{variable(lineName(line.A)), variable(lineName(line.B))}}
	}
	x, _ := term.Parse(t, axiomTerms[line.Kind]) // no formula is in it, so no row is made
	return api.Term{Kind: api.TThe, Form: line.Form, Sub: []api.Term{x}}
}
