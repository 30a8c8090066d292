package sequent_test

import (
	"math"
	"slices"
	"strings"
	"testing"

	"dictum/api"
	"dictum/formula"
	"dictum/sequent"
)

// call is one that has a table and a sequent: whether all that it answers beside its error is zero, and the error.
type call struct {
	name string
	do   func(x *formula.Table, s api.Seq) (bool, api.Errno)
}

func calls() []call {
	return []call{
		{"Check", func(x *formula.Table, s api.Seq) (bool, api.Errno) { return true, sequent.Check(x, s) }},
		{"Of", func(x *formula.Table, s api.Seq) (bool, api.Errno) {
			got, e := sequent.Of(x, leftOf(s), s.Goal)
			return got == (api.Seq{}), e
		}},
		{"Print", func(x *formula.Table, s api.Seq) (bool, api.Errno) {
			got, e := sequent.Print(x, s)
			return got == "", e
		}},
		{"Weights", func(x *formula.Table, s api.Seq) (bool, api.Errno) {
			got, e := sequent.Weights(x, s)
			return len(got) == 0, e
		}},
		{"Whole", func(x *formula.Table, s api.Seq) (bool, api.Errno) {
			got, e := sequent.Whole(x, s)
			return got == 0, e
		}},
		{"Curry", func(x *formula.Table, s api.Seq) (bool, api.Errno) {
			got, e := sequent.Curry(x, s)
			return got == 0, e
		}},
	}
}

// allRefuse asks of each call that it is refused with that error, beside zeros, and changes nothing.
func allRefuse(t *testing.T, x *formula.Table, s api.Seq, want api.Errno) {
	t.Helper()
	rows := x.Rows()
	for _, c := range calls() {
		if zero, e := c.do(x, s); !zero || e != want {
			t.Errorf("%s of %v |- %d: zeros %v, error %d, not %d", c.name, leftOf(s), s.Goal, zero, e, want)
		}
	}
	same(t, x, rows)
}

// TestNil: R1, tables that no call made are told ahead of all else, and are not changed.
func TestNil(t *testing.T) {
	for _, x := range []*formula.Table{nil, new(formula.Table)} {
		for _, s := range []api.Seq{{}, seq(0, 0), seq(-1), seq(5, 7, 1023), seq(math.MaxInt)} {
			allRefuse(t, x, s, api.ErrNil)
		}
		if s, e := sequent.Of(x, []int{-1, math.MaxInt}, -1); s != (api.Seq{}) || e != api.ErrNil {
			t.Error(s, e)
		}
		for _, text := range []string{"", "p", "p |- q", "p, q", "$", strings.Repeat("p ", 600)} {
			if s, f := sequent.Parse(x, text); s != (api.Seq{}) || f != (api.Fault{Code: api.ErrNil}) {
				t.Errorf("Parse(%.20q): %v, fault %v", text, s, f)
			}
		}
		if x != nil && x.Len() != 0 {
			t.Error("rows of what no call made")
		}
	}
}

// TestNoForm: P8.1, numbers that are no formula's: as the goal, and on the left, alone and among others.
func TestNoForm(t *testing.T) {
	allRefuse(t, formula.New(), api.Seq{}, api.ErrForm)
	allRefuse(t, formula.New(), seq(0, 0), api.ErrForm)
	x := made(t, exampleRows()...)
	for _, goal := range noForms(3) {
		allRefuse(t, x, seq(goal), api.ErrForm)
		allRefuse(t, x, seq(goal, 0, 1, 2), api.ErrForm)
		allRefuse(t, x, seq(goal, 9), api.ErrForm)
	}
	for id := 3; id < api.MaxForms; id++ {
		allRefuse(t, x, seq(0, id), api.ErrForm)
		allRefuse(t, x, seq(2, 0, 2, id), api.ErrForm)
	}
}

// TestNoFormFull: P8.1 in a full table: every number of a row of bits is a formula's; a goal past them is none, ahead of ErrForms and ErrLong.
func TestNoFormFull(t *testing.T) {
	x := filled(t, exampleRows(), api.MaxForms)
	all := make([]int, api.MaxForms)
	for i := range all {
		all[i] = i
	}
	if e := sequent.Check(x, seq(1023, all...)); e != api.OK {
		t.Error(e)
	}
	for _, goal := range noForms(api.MaxForms) {
		allRefuse(t, x, seq(goal, all...), api.ErrForm)
	}
	x.Cut(api.MaxForms - 1)
	allRefuse(t, x, seq(0, all...), api.ErrForm)
	allRefuse(t, x, seq(1023), api.ErrForm)
}

// TestCheck: P8.1, all sequents of a small table are right, and a check changes nothing.
func TestCheck(t *testing.T) {
	x := made(t, exampleRows()...)
	for left := range uint64(8) {
		for goal := range 3 {
			if e := sequent.Check(x, api.Seq{Left: api.Bits{left}, Goal: goal}); e != api.OK {
				t.Errorf("%b |- %d: error %d", left, goal, e)
			}
		}
	}
	same(t, x, exampleRows())
}

// TestOf: P8.1, any order, like ones once, no formulas, nil and empty lists; the list is not changed, and its length alone counts.
func TestOf(t *testing.T) {
	x := filled(t, exampleRows(), api.MaxForms)
	for _, c := range []struct {
		left []int
		want api.Seq
	}{
		{nil, seq(7)}, {[]int{}, seq(7)}, {[]int{7}, seq(7, 7)}, {[]int{2, 0}, seq(7, 0, 2)}, {[]int{0, 0, 0}, seq(7, 0)},
		{[]int{1023, 64, 63, 1023, 0, 64}, seq(7, 0, 63, 64, 1023)}, {[]int{1, 2, -9, 5000}[:2], seq(7, 1, 2)},
	} {
		was := slices.Clone(c.left)
		if s, e := sequent.Of(x, c.left, 7); s != c.want || e != api.OK {
			t.Errorf("Of(%v): %v, error %d", c.left, leftOf(s), e)
		}
		if !slices.Equal(was, c.left) {
			t.Errorf("%v has become %v", was, c.left)
		}
	}
	many := make([]int, 100000)
	for i := range many {
		many[i] = i % 3
	}
	if s, e := sequent.Of(x, many, 1023); s != seq(1023, 0, 1, 2) || e != api.OK {
		t.Error(leftOf(s), e)
	}
}

// TestOfNoForm: P8.1, numbers that no row of bits has, in each place of the list.
func TestOfNoForm(t *testing.T) {
	x := made(t, exampleRows()...)
	for _, id := range noForms(3) {
		for at := range 4 {
			left := slices.Insert([]int{2, 0, 1}, at, id)
			if s, e := sequent.Of(x, left, 0); s != (api.Seq{}) || e != api.ErrForm {
				t.Errorf("Of(%v): %v, error %d", left, s, e)
			}
		}
		if s, e := sequent.Of(x, nil, id); s != (api.Seq{}) || e != api.ErrForm {
			t.Errorf("Of goal %d: %v, error %d", id, s, e)
		}
	}
	same(t, x, exampleRows())
}
