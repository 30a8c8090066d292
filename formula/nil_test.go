package formula_test

import (
	"testing"

	"dictum/api"
	"dictum/formula"
)

// unmade are tables that no call made.
func unmade() map[string]*formula.Table {
	var declared formula.Table
	return map[string]*formula.Table{"nil": nil, "zero": {}, "new": new(formula.Table), "declared": &declared}
}

// TestUnmadePuts: R1 and P3.1, every call that would put a row is refused with ErrNil, whatever else is wrong with its arguments.
func TestUnmadePuts(t *testing.T) {
	for name, f := range unmade() {
		for _, n := range []api.Node{atom("p"), atom("let"), bot(), {}, join(api.KAnd, 0, 0), join(api.KImp, -1, 9), {Kind: api.KBot, Name: "p"}} {
			id, e := f.Put(n)
			answers(t, name+": Put", id, e, 0, api.ErrNil)
		}
		for _, s := range []string{"p", "", "let"} {
			id, e := f.Atom(s)
			answers(t, name+": Atom", id, e, 0, api.ErrNil)
		}
		id, e := f.Bot()
		answers(t, name+": Bot", id, e, 0, api.ErrNil)
		for _, a := range []int{-1, 0, 1, api.MaxForms} {
			for what, call := range map[string]func(int, int) (int, api.Errno){"And": f.And, "Or": f.Or, "Imp": f.Imp} {
				id, e := call(a, a)
				answers(t, name+": "+what, id, e, 0, api.ErrNil)
			}
			id, e := f.Not(a)
			answers(t, name+": Not", id, e, 0, api.ErrNil)
		}
		untouched(t, name, f)
	}
}

// TestUnmadeAsks: R1 and P3.1, every other call answers ErrNil, 0, false, none or nil.
func TestUnmadeAsks(t *testing.T) {
	for name, f := range unmade() {
		for _, id := range []int{-1, 0, 1, api.MaxForms} {
			if n, ok := f.Node(id); n != (api.Node{}) || ok {
				t.Errorf("%s: Node(%d): %v, %v", name, id, n, ok)
			}
			if l, e := f.Below(id); len(l) != 0 || e != api.ErrNil {
				t.Errorf("%s: Below(%d): %v, error %d", name, id, l, e)
			}
			if e := f.Cut(id); e != api.ErrNil {
				t.Errorf("%s: Cut(%d): error %d", name, id, e)
			}
		}
		for _, n := range []api.Node{{}, atom("p"), bot()} {
			absent(t, f, n)
		}
		if l := f.Rows(); len(l) != 0 {
			t.Errorf("%s: Rows: %v", name, l)
		}
		if c := f.Copy(); c != nil {
			t.Errorf("%s: Copy: %v", name, c)
		}
		untouched(t, name, f)
	}
}

// untouched: a table that no call made is still none behind all calls.
func untouched(t *testing.T, name string, f *formula.Table) {
	t.Helper()
	if f.Len() != 0 {
		t.Errorf("%s: %d rows", name, f.Len())
	}
	if _, e := f.Bot(); e != api.ErrNil {
		t.Errorf("%s has become a table: error %d", name, e)
	}
}

// TestMadeWithoutRows: R1, a table that has no rows, or none any more, is no table that no call made.
func TestMadeWithoutRows(t *testing.T) {
	cut := made(t, sample())
	cut.Cut(0)
	for name, f := range map[string]*formula.Table{"New": formula.New(), "From": made(t, nil), "Copy": formula.New().Copy(), "Cut": cut, "Copy of Cut": cut.Copy()} {
		if f == nil {
			t.Errorf("%s: nil", name)
			continue
		}
		holds(t, f, nil)
		if e := f.Cut(0); e != api.OK {
			t.Errorf("%s: Cut(0): error %d", name, e)
		}
		if e := f.Cut(1); e != api.ErrArg {
			t.Errorf("%s: Cut(1): error %d", name, e)
		}
		if l, e := f.Below(0); len(l) != 0 || e != api.ErrForm {
			t.Errorf("%s: Below(0): %v, error %d", name, l, e)
		}
		id, e := f.Atom("p")
		answers(t, name, id, e, 0, api.OK)
	}
}
