package subst_test

import (
	"slices"
	"strconv"
	"testing"

	"dictum/api"
	"dictum/formula"
	"dictum/subst"
)

// call is one call with numbers of formulas.
type call struct {
	name string
	many int
	do   func(f *formula.Table, ids []int) (int, api.Errno)
}

func calls() []call {
	match := func(f *formula.Table, ids []int) (int, api.Errno) {
		l, ok, e := subst.Match(f, ids[0], ids[1])
		if ok || len(l) != 0 {
			return 1 + len(l), e
		}
		return 0, e
	}
	return []call{
		{"Put", 1, func(f *formula.Table, ids []int) (int, api.Errno) { return subst.Put(f, ids[0], nil) }},
		{"Put by one", 2, func(f *formula.Table, ids []int) (int, api.Errno) {
			return subst.Put(f, ids[0], []api.Hyp{{Name: "p", Form: ids[1]}})
		}},
		{"Put by three", 4, func(f *formula.Table, ids []int) (int, api.Errno) {
			return subst.Put(f, ids[0], []api.Hyp{{Name: "p", Form: ids[1]}, {Name: "no", Form: ids[2]}, {Name: "q", Form: ids[3]}})
		}},
		{"Put by bad names", 4, func(f *formula.Table, ids []int) (int, api.Errno) {
			return subst.Put(f, ids[0], []api.Hyp{{Name: "let", Form: ids[1]}, {Name: "p", Form: ids[2]}, {Name: "p", Form: ids[3]}})
		}},
		{"Replace", 3, func(f *formula.Table, ids []int) (int, api.Errno) { return subst.Replace(f, ids[0], ids[1], ids[2]) }},
		{"Match", 2, match},
		{"Simple", 1, func(f *formula.Table, ids []int) (int, api.Errno) { return subst.Simple(f, ids[0]) }},
		{"Frame", 2, func(f *formula.Table, ids []int) (int, api.Errno) { return subst.Frame(f, ids[0], "p", ids[1]) }},
		{"Frame of a bad name", 2, func(f *formula.Table, ids []int) (int, api.Errno) { return subst.Frame(f, ids[0], "1", ids[1]) }},
	}
}

// refuses holds a call against an error, with some numbers, behind which the table is as it was.
func refuses(t *testing.T, c call, f *formula.Table, ids []int, want api.Errno) {
	t.Helper()
	rows := f.Rows()
	if id, e := c.do(f, ids); id != 0 || e != want {
		t.Errorf("%s%v: %d, error %d, not %d", c.name, ids, id, e, want)
	}
	same(t, f, rows)
}

// TestUnmade: R1, of a table that no call made every call answers ErrNil and zeros, whatever the numbers and the names are; the table stays none.
func TestUnmade(t *testing.T) {
	var declared formula.Table
	for _, f := range []*formula.Table{nil, {}, new(formula.Table), &declared} {
		for _, id := range append(noForms(6), 0, 1, 5) {
			for _, c := range calls() {
				refuses(t, c, f, slices.Repeat([]int{id}, c.many), api.ErrNil)
			}
		}
		if _, e := f.Bot(); e != api.ErrNil {
			t.Errorf("it has become a table: error %d", e)
		}
	}
}

// TestNoForm: numbers that no formula has, in each place alone, in all of them, and ahead of whatever is wrong with names.
func TestNoForm(t *testing.T) {
	cut := made(t, []api.Node{atom("p"), bot(), join(api.KImp, 0, 1), atom("q")})
	cut.Cut(3)
	full := filled(t, []api.Node{atom("p"), bot(), join(api.KImp, 0, 1)}, api.MaxForms)
	for _, f := range []*formula.Table{formula.New(), made(t, []api.Node{atom("p")}), cut, full} {
		for _, id := range noForms(f.Len()) {
			for _, c := range calls() {
				refuses(t, c, f, slices.Repeat([]int{id}, c.many), api.ErrForm)
				for at := 0; at < c.many && f.Len() > 0; at++ {
					ids := make([]int, c.many)
					ids[at] = id
					refuses(t, c, f, ids, api.ErrForm)
				}
			}
		}
	}
}

// TestPutTwice: P7.2, two of by with one Name, next to each other and apart, with like and unlike formulas, and names that are none.
func TestPutTwice(t *testing.T) {
	rows := []api.Node{atom("p"), atom("q"), join(api.KAnd, 0, 1)}
	f := made(t, rows)
	for _, names := range [][]string{
		{"p", "p"}, {"p", "q", "p"}, {"q", "p", "p"}, {"p", "p", "q"}, {"a", "b", "c", "d", "a"}, {"s", "s"}, {"p", "p", "p"},
		{"", ""}, {"let", "p", "let"}, {"let", "p", "p"}, {"p", "p", "let"}, {"p", "let", "p"}, {"", "1", "\xff", "1"},
	} {
		for forms := range 9 {
			var by []api.Hyp
			for i, name := range names {
				by = append(by, api.Hyp{Name: name, Form: []int{forms % 3, forms / 3}[i%2]})
			}
			was := slices.Clone(by)
			id, e := subst.Put(f, 2, by)
			answers(t, "Put", id, e, 0, api.ErrSubst)
			if !slices.Equal(by, was) {
				t.Errorf("%v has become %v", was, by)
			}
		}
	}
	same(t, f, rows)
}

// TestPutNames: P7.2, names that are none, in each place, whether the formula has atoms or not.
func TestPutNames(t *testing.T) {
	rows := []api.Node{atom("p"), atom("q"), join(api.KAnd, 0, 1), bot()}
	f := made(t, rows)
	for _, name := range noNames() {
		for at := range 4 {
			by := slices.Insert([]api.Hyp{{Name: "p", Form: 1}, {Name: "q", Form: 2}, {Name: "r", Form: 2}}, at, api.Hyp{Name: name, Form: 1})
			for id := range rows {
				got, e := subst.Put(f, id, by)
				answers(t, "Put of "+name, got, e, 0, api.ErrAtom)
			}
		}
		id, e := subst.Put(f, 2, []api.Hyp{{Name: name, Form: 0}})
		answers(t, "Put of "+name, id, e, 0, api.ErrAtom)
	}
	same(t, f, rows)
}

// TestErrorsOrder: R2, of several errors the one that the chapter names first: ErrForm, ErrSubst, ErrAtom, ErrForms.
func TestErrorsOrder(t *testing.T) {
	f := filled(t, []api.Node{atom("p"), atom("q"), join(api.KAnd, 0, 1)}, api.MaxForms)
	rows := f.Rows()
	twice, bad, fine := []api.Hyp{{Name: "p", Form: 1}, {Name: "p", Form: 1}}, []api.Hyp{{Name: "let", Form: 1}}, []api.Hyp{{Name: "p", Form: 1}}
	noForm := []api.Hyp{{Name: "p", Form: -1}}
	for _, x := range []struct {
		by   []api.Hyp
		want api.Errno
	}{
		{slices.Concat(twice, bad, noForm), api.ErrForm}, {slices.Concat(noForm, twice), api.ErrForm}, {slices.Concat(bad, noForm), api.ErrForm},
		{slices.Concat(twice, bad), api.ErrSubst}, {slices.Concat(bad, twice), api.ErrSubst}, {slices.Concat(bad, bad), api.ErrSubst}, {twice, api.ErrSubst},
		{slices.Concat(fine, bad), api.ErrAtom}, {slices.Concat(bad, fine), api.ErrAtom},
		{fine, api.ErrForms},
	} {
		id, e := subst.Put(f, 2, x.by)
		answers(t, "Put", id, e, 0, x.want)
		same(t, f, rows)
	}
	id, e := subst.Frame(f, 2, "let", 1)
	answers(t, "Frame", id, e, 0, api.ErrAtom)
	id, e = subst.Frame(f, 2, "p", 1)
	answers(t, "Frame", id, e, 0, api.ErrForms)
}

// TestManyNames: P7.2, more names than a table has rows.
func TestManyNames(t *testing.T) {
	f := made(t, []api.Node{atom("n777"), atom("q"), join(api.KAnd, 0, 1)})
	var by []api.Hyp
	for i := range 5000 {
		by = append(by, api.Hyp{Name: "n" + strconv.Itoa(i), Form: i % 3})
	}
	by[777].Form = 1
	id, e := subst.Put(f, 2, by)
	answers(t, "Put", id, e, 3, api.OK)
	same(t, f, []api.Node{atom("n777"), atom("q"), join(api.KAnd, 0, 1), join(api.KAnd, 1, 1)})
	id, e = subst.Put(f, 2, append(by, api.Hyp{Name: "n0"}))
	answers(t, "Put", id, e, 0, api.ErrSubst)
}
