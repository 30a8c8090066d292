package subst_test

import (
	"testing"

	"dictum/api"
	"dictum/formula"
	"dictum/subst"
)

// beginning has rows of which the calls below make others.
func beginning() []api.Node {
	return []api.Node{atom("p"), atom("q"), join(api.KAnd, 0, 0), join(api.KOr, 2, 0), join(api.KImp, 3, 1), join(api.KImp, 1, 1), join(api.KAnd, 5, 4)}
}

type growing struct {
	name string
	rows int // that it makes
	do   func(f *formula.Table) (int, api.Errno)
}

func growings() []growing {
	return []growing{
		{"Put", 5, func(f *formula.Table) (int, api.Errno) {
			return subst.Put(f, 6, []api.Hyp{{Name: "p", Form: 1}, {Name: "q", Form: 0}})
		}},
		{"Frame", 4, func(f *formula.Table) (int, api.Errno) { return subst.Frame(f, 6, "p", 1) }},
		{"Replace", 3, func(f *formula.Table) (int, api.Errno) { return subst.Replace(f, 6, 2, 0) }},
		{"Simple", 3, func(f *formula.Table) (int, api.Errno) { return subst.Simple(f, 6) }},
		{"Simple of q -> q", 2, func(f *formula.Table) (int, api.Errno) { return subst.Simple(f, 5) }},
		{"Put of one", 1, func(f *formula.Table) (int, api.Errno) { return subst.Frame(f, 5, "q", 0) }},
		{"Put of nothing", 0, func(f *formula.Table) (int, api.Errno) { return subst.Put(f, 6, nil) }},
		{"Put of an atom", 0, func(f *formula.Table) (int, api.Errno) { return subst.Frame(f, 0, "p", 6) }},
		{"Put of what is there", 0, func(f *formula.Table) (int, api.Errno) { return subst.Frame(f, 2, "q", 6) }},
		{"Replace of itself", 0, func(f *formula.Table) (int, api.Errno) { return subst.Replace(f, 6, 6, 3) }},
		{"Simple of p & p", 0, func(f *formula.Table) (int, api.Errno) { return subst.Simple(f, 3) }},
	}
}

// TestFull: P7.1, a table that is full, and one that becomes full on the way, is as it was behind ErrForms; with just as much room as is needed, and where nothing has to be made, there is the answer.
func TestFull(t *testing.T) {
	for _, g := range growings() {
		wide := made(t, beginning())
		want, e := g.do(wide)
		if e != api.OK || wide.Len() != len(beginning())+g.rows {
			t.Fatalf("%s: error %d, %d rows", g.name, e, wide.Len())
		}
		for room := range g.rows + 2 {
			f := filled(t, beginning(), api.MaxForms-room)
			rows := f.Rows()
			id, e := g.do(f)
			if room < g.rows {
				answers(t, g.name, id, e, 0, api.ErrForms)
				same(t, f, rows)
				if f.Len() < api.MaxForms { // what was forgotten is not found either
					if id, e := f.Atom("new"); id != len(rows) || e != api.OK {
						t.Errorf("%d, error %d", id, e)
					}
				}
				continue
			}
			there := want
			if want >= len(beginning()) { // it stands behind the rows that fill the table
				there += len(rows) - len(beginning())
			}
			answers(t, g.name, id, e, there, api.OK)
			if f.Len() != len(rows)+g.rows {
				t.Errorf("%s: %d rows", g.name, f.Len())
			}
		}
	}
}

// TestFullTrue: P7.5, true where there is no room for false, or for false alone.
func TestFullTrue(t *testing.T) {
	for room := range 3 {
		f := filled(t, []api.Node{atom("p"), join(api.KImp, 0, 0)}, api.MaxForms-room)
		rows := f.Rows()
		id, e := subst.Simple(f, 1)
		if room < 2 {
			answers(t, "Simple", id, e, 0, api.ErrForms)
			same(t, f, rows)
			continue
		}
		answers(t, "Simple", id, e, api.MaxForms-1, api.OK)
	}
}

// TestFullMatch: P7.4, Match needs no room.
func TestFullMatch(t *testing.T) {
	f := filled(t, beginning(), api.MaxForms)
	rows := f.Rows()
	if l, ok, e := subst.Match(f, 2, 2); len(l) != 1 || !ok || e != api.OK {
		t.Errorf("%v, %v, error %d", l, ok, e)
	}
	if l, ok, e := subst.Match(f, 2, 3); len(l) != 0 || ok || e != api.OK {
		t.Errorf("%v, %v, error %d", l, ok, e)
	}
	same(t, f, rows)
}
