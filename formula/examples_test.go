package formula_test

import (
	"slices"
	"testing"

	"dictum/api"
	"dictum/formula"
)

// example is the table of the chapter's example 1.
func example(t *testing.T) *formula.Table {
	t.Helper()
	f := formula.New()
	one := func(what string, want int) func(int, api.Errno) {
		return func(id int, e api.Errno) {
			t.Helper()
			answers(t, what, id, e, want, api.OK)
		}
	}
	one("p", 0)(f.Atom("p"))
	one("q", 1)(f.Atom("q"))
	one("p & q", 2)(f.And(0, 1))
	one("p & q -> p", 3)(f.Imp(2, 0))
	one("p & q again", 2)(f.And(0, 1))
	one("~p", 5)(f.Not(0))
	return f
}

// TestExampleRows is the chapter's example 1.
func TestExampleRows(t *testing.T) {
	f := example(t)
	holds(t, f, []api.Node{atom("p"), atom("q"), join(api.KAnd, 0, 1), join(api.KImp, 2, 0), bot(), join(api.KImp, 0, 4)})
}

// TestExampleRefused is the chapter's example 2.
func TestExampleRefused(t *testing.T) {
	f := example(t)
	for _, s := range []string{"let", "1", ""} {
		id, e := f.Atom(s)
		answers(t, "Atom "+s, id, e, 0, api.ErrAtom)
	}
	id, e := f.And(0, 9)
	answers(t, "And", id, e, 0, api.ErrForm)
	id, e = f.Put(api.Node{Kind: api.KBot, Name: "", L: 1, R: 0})
	answers(t, "Put", id, e, 0, api.ErrForm)
}

// TestExampleBelowAndFrom is the chapter's example 3.
func TestExampleBelowAndFrom(t *testing.T) {
	if l, e := example(t).Below(3); !slices.Equal(l, []int{0, 1, 2, 3}) || e != api.OK {
		t.Errorf("%v, error %d", l, e)
	}
	if f, e := formula.From([]api.Node{{Kind: api.KBot}, {Kind: api.KBot}}); f != nil || e != api.ErrForm {
		t.Errorf("%v, error %d", f, e)
	}
}
