package types_test

import (
	"slices"
	"testing"

	"dictum/api"
	"dictum/formula"
	"dictum/types"
)

// verdict is what the chapter says of a term: the formula that is told, or why it is refused, and the way there.
type verdict struct {
	form int
	code api.Errno
	way  []int
}

// under is a verdict of a part, seen from the term that has it.
func (w verdict) under(place int) verdict {
	if w.code != api.OK {
		w.way = append([]int{place}, w.way...)
	}
	return w
}

func no(code api.Errno) verdict { return verdict{code: code} }

func yes(form int) verdict { return verdict{form: form} }

// reader reads the chapter's rules as they stand there, with the hypotheses as one list from which names are taken, from behind.
type reader struct{ rows []api.Node }

func (r reader) is(form int, k api.Kind) bool { return r.rows[form].Kind == k }

func with(hyps []api.Hyp, name string, form int) []api.Hyp {
	return append(slices.Clone(hyps), hyp(name, form))
}

// told is P13.1.
func (r reader) told(hyps []api.Hyp, x api.Term) verdict {
	switch x.Kind {
	case api.TVar:
		for i := len(hyps) - 1; i >= 0; i-- {
			if hyps[i].Name == x.Name {
				return yes(hyps[i].Form)
			}
		}
		return no(api.ErrName)
	case api.TThe:
		if x.Form >= len(r.rows) {
			return no(api.ErrForm)
		}
		if a := r.checked(hyps, x.Sub[0], x.Form); a.code != api.OK {
			return a.under(0)
		}
		return yes(x.Form)
	case api.TLam, api.TPair, api.TInl, api.TInr, api.TAbort:
		return no(api.ErrUnsaid)
	}
	a := r.told(hyps, x.Sub[0])
	if a.code != api.OK {
		return a.under(0)
	}
	if x.Kind == api.TLet {
		return r.told(with(hyps, x.Name, a.form), x.Sub[1]).under(1)
	}
	asked := map[api.TermKind]api.Kind{api.TApp: api.KImp, api.TFst: api.KAnd, api.TSnd: api.KAnd, api.TCase: api.KOr}
	if !r.is(a.form, asked[x.Kind]) {
		return no(api.ErrType)
	}
	return r.toldOf(hyps, x, r.rows[a.form])
}

// toldOf is P13.1 of the kinds whose first part was told to be that.
func (r reader) toldOf(hyps []api.Hyp, x api.Term, n api.Node) verdict {
	switch x.Kind {
	case api.TFst:
		return yes(n.L)
	case api.TSnd:
		return yes(n.R)
	case api.TApp:
		if b := r.checked(hyps, x.Sub[1], n.L); b.code != api.OK {
			return b.under(1)
		}
		return yes(n.R)
	}
	b := r.told(with(hyps, x.Name, n.L), x.Sub[1])
	if b.code != api.OK {
		return b.under(1)
	}
	c := r.told(with(hyps, x.Other, n.R), x.Sub[2])
	if c.code != api.OK {
		return c.under(2)
	}
	if b.form != c.form {
		return no(api.ErrType)
	}
	return yes(b.form)
}

// checked is P13.2.
func (r reader) checked(hyps []api.Hyp, x api.Term, form int) verdict {
	n := r.rows[form]
	asked := map[api.TermKind]api.Kind{api.TLam: api.KImp, api.TPair: api.KAnd, api.TInl: api.KOr, api.TInr: api.KOr}
	if k, ok := asked[x.Kind]; ok && n.Kind != k {
		return no(api.ErrType)
	}
	switch x.Kind {
	case api.TLam:
		return r.checked(with(hyps, x.Name, n.L), x.Sub[0], n.R).under(0)
	case api.TPair:
		if a := r.checked(hyps, x.Sub[0], n.L); a.code != api.OK {
			return a.under(0)
		}
		return r.checked(hyps, x.Sub[1], n.R).under(1)
	case api.TInl:
		return r.checked(hyps, x.Sub[0], n.L).under(0)
	case api.TInr:
		return r.checked(hyps, x.Sub[0], n.R).under(0)
	case api.TCase, api.TAbort, api.TLet:
		return r.checkedOf(hyps, x, form)
	}
	a := r.told(hyps, x)
	if a.code == api.OK && a.form != form {
		return no(api.ErrType)
	}
	return a
}

// checkedOf is P13.2 of the kinds whose first part is told.
func (r reader) checkedOf(hyps []api.Hyp, x api.Term, form int) verdict {
	a := r.told(hyps, x.Sub[0])
	switch {
	case a.code != api.OK:
		return a.under(0)
	case x.Kind == api.TLet:
		return r.checked(with(hyps, x.Name, a.form), x.Sub[1], form).under(1)
	case x.Kind == api.TAbort && r.is(a.form, api.KBot):
		return yes(form)
	case x.Kind == api.TAbort || !r.is(a.form, api.KOr):
		return no(api.ErrType)
	}
	if b := r.checked(with(hyps, x.Name, r.rows[a.form].L), x.Sub[1], form); b.code != api.OK {
		return b.under(1)
	}
	return r.checked(with(hyps, x.Other, r.rows[a.form].R), x.Sub[2], form).under(2)
}

// counts are how many of the terms that were asked for were answered so.
type counts map[api.Errno]int

// asPlain asks that all three calls answer what the plain reading does, told and checked against each formula, and answers how many were refused by what.
func (m counts) asPlain(t *testing.T, f *formula.Table, hyps []api.Hyp, x api.Term, forms ...int) {
	t.Helper()
	r := reader{f.Rows()}
	want := r.told(hyps, x)
	if got, e := types.Infer(f, hyps, x); got != want.form || e != want.code {
		t.Fatalf("%v: Infer(%v, %s): %d, error %d, not %v", r.rows, hyps, show(x), got, e, want)
	}
	m[want.code]++
	for _, form := range forms {
		want := r.checked(hyps, x, form)
		way, e := types.Where(f, hyps, x, form)
		if e != want.code || !slices.Equal(way, want.way) {
			t.Fatalf("%v: Where(%v, %s, %d): %v, error %d, not %v", r.rows, hyps, show(x), form, way, e, want)
		}
		if e := types.Check(f, hyps, x, form); e != want.code {
			t.Fatalf("%v: Check(%v, %s, %d): error %d, not %v", r.rows, hyps, show(x), form, e, want)
		}
		m[want.code]++
	}
}

// enough asks that each of the errors, and none, was the answer so often.
func (m counts) enough(t *testing.T, many int, codes ...api.Errno) {
	t.Helper()
	for _, code := range codes {
		if m[code] < many {
			t.Errorf("error %d was answered %d times", code, m[code])
		}
	}
}

// TestPlainSmall: all small terms, at all formulas of a table with all kinds.
func TestPlainSmall(t *testing.T) {
	f := made(t, bot(), join(api.KImp, 0, 0), join(api.KAnd, 0, 1), join(api.KOr, 0, 1), join(api.KOr, 0, 0), atom("p"), join(api.KAnd, 2, 5))
	m := counts{}
	for _, hyps := range [][]api.Hyp{nil, {hyp("x", 2)}, {hyp("x", 3), hyp("y", 1)}, {hyp("y", 4), hyp("x", 0)}, {hyp("x", 1), hyp("x", 6), hyp("y", 5)}} {
		for nodes := range 4 {
			for _, x := range allTerms(nodes+1, []string{"x", "y"}, 3) {
				m.asPlain(t, f, hyps, x, 0, 1, 2, 3, 4, 5, 6)
			}
		}
	}
	m.enough(t, 800, api.OK, api.ErrType, api.ErrName, api.ErrUnsaid)
}

// TestPlainChance: terms by chance under hypotheses by chance.
func TestPlainChance(t *testing.T) {
	chance := newChance(1)
	m := counts{}
	names := []string{"x", "y", "z"}
	for range 60000 {
		f := made(t, someRows(chance, 1+chance.IntN(12), 2)...)
		hyps := someHyps(chance, chance.IntN(6), names, f.Len())
		x := someTerm(chance, 2+chance.IntN(4), names, f.Len()+chance.IntN(2))
		m.asPlain(t, f, hyps, x, chance.IntN(f.Len()), chance.IntN(f.Len()))
	}
	m.enough(t, 100, api.OK, api.ErrType, api.ErrName, api.ErrUnsaid, api.ErrForm)
}
