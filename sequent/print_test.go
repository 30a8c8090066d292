package sequent_test

import (
	"strings"
	"testing"

	"dictum/api"
	"dictum/formula"
	"dictum/sequent"
)

// TestPrint: P8.3, formulas by rising numbers, what stands between them, no formula, one, and the goal on the left, too.
func TestPrint(t *testing.T) {
	x := made(t, atom("z"), atom("a"), join(api.KImp, 0, 1), bot(), join(api.KImp, 2, 3), join(api.KImp, 3, 3), join(api.KOr, 2, 4))
	for want, s := range map[string]api.Seq{
		"|- z":                               seq(0),
		"z |- z":                             seq(0, 0),
		"z |- a":                             seq(1, 0),
		"z, a |- false":                      seq(3, 1, 0),
		"z -> a, ~(z -> a) |- true":          seq(5, 2, 4),
		"a, true, (z -> a) | ~(z -> a) |- z": seq(0, 6, 5, 1),
		"|- (z -> a) | ~(z -> a)":            seq(6),
		"z, a, z -> a, false, ~(z -> a), true, (z -> a) | ~(z -> a) |- true": seq(5, 0, 1, 2, 3, 4, 5, 6),
	} {
		prints(t, x, s, want)
	}
	if x.Len() != 7 {
		t.Error("Print has put rows")
	}
}

// TestPrintWords: P8.3, left sides in each word of the row of bits.
func TestPrintWords(t *testing.T) {
	x := filled(t, nil, api.MaxForms)
	prints(t, x, seq(1023, 1023, 0, 63, 64, 127, 512), "fill0, fill63, fill64, fill127, fill512, fill1023 |- fill1023")
	for id := range api.MaxForms {
		s := seq(1023-id, id)
		prints(t, x, s, plainPrint(x, s))
	}
}

// nots puts ~~..p with up to so many signs, and answers the number of each, by how many it has.
func nots(t *testing.T, x *formula.Table, name string, most int) []int {
	t.Helper()
	ids := []int{read(t, x, name)}
	for len(ids) <= most {
		id, e := x.Not(ids[len(ids)-1])
		if e != api.OK {
			t.Fatalf("%d signs: error %d", len(ids), e)
		}
		ids = append(ids, id)
	}
	return ids
}

// TestPrintLong: P8.3, a text of just MaxText bytes, and of one more: by the goal, by the left side's formulas, by what stands between.
func TestPrintLong(t *testing.T) {
	const most = 358
	x := formula.New()
	p, q := nots(t, x, "p", most), nots(t, x, "q", 600)
	left := p[:most]
	size := 0
	for i := range left {
		size += i + 1 + len(", ")
	}
	size += len("|- ") - 1 // behind the last formula a blank alone
	goal := api.MaxText - size - 1
	whole := seq(q[goal], left...)
	text, e := sequent.Print(x, whole)
	if len(text) != api.MaxText || e != api.OK || text != plainPrint(x, whole) {
		t.Fatalf("%d bytes, error %d", len(text), e)
	}
	tooLong(t, x, seq(q[goal+1], left...))
	tooLong(t, x, seq(q[goal], append([]int{p[most]}, left...)...))
	// A formula of one byte and what stands between are three bytes.
	r := read(t, x, "r")
	prints(t, x, seq(q[goal-3], append([]int{r}, left...)...), strings.Replace(text, " |- ~~~", ", r |- ", 1))
	tooLong(t, x, seq(q[goal-2], append([]int{r}, left...)...))
}

// tooLong asks for ErrLong, and for a table that is as it was.
func tooLong(t *testing.T, x *formula.Table, s api.Seq) {
	t.Helper()
	rows := x.Rows()
	if text, e := sequent.Print(x, s); text != "" || e != api.ErrLong {
		t.Errorf("Print of %d formulas |- %d: %d bytes, error %d", len(leftOf(s)), s.Goal, len(text), e)
	}
	same(t, x, rows)
}

// TestPrintLongFormula: P8.3, formulas that are too long alone, on each side, and one that is just not.
func TestPrintLongFormula(t *testing.T) {
	x := made(t, atom("p"))
	last := 0
	var sizes []int // of p & p, of that & itself, ..: twice as long and some with each row
	for size := 1; size <= api.MaxText; {
		size = 2*size + 3
		if len(sizes) > 0 {
			size += 2 // parentheses
		}
		sizes = append(sizes, size)
		last, _ = x.And(last, last)
	}
	for id := last - 1; id <= last; id++ {
		for _, s := range []api.Seq{seq(id), seq(0, id), seq(0, 0, id), seq(id, 0)} {
			if id == last {
				tooLong(t, x, s)
				continue
			}
			if text, e := sequent.Print(x, s); e != api.OK || text != plainPrint(x, s) || len(text) < sizes[id-1] {
				t.Errorf("%d bytes, error %d", len(text), e)
			}
		}
	}
	tooLong(t, x, seq(last-1, last-1))
	tooLong(t, x, seq(last, last))
}

// TestPrintManyLong: P8.3, a thousand formulas each of which has its place in a text, but no two of them; and a thousand most of which are much too long, with shared parts that double from row to row.
func TestPrintManyLong(t *testing.T) {
	all := make([]int, api.MaxForms)
	for id := range all {
		all[id] = id
	}
	x := made(t, atom("p"))
	for id := range 13 {
		x.And(id, id)
	}
	for last := 13; x.Len() < api.MaxForms; {
		last, _ = x.Not(last)
	}
	if text, e := sequent.Print(x, seq(1023)); len(text) < api.MaxText/2 || e != api.OK {
		t.Fatalf("%d bytes, error %d", len(text), e)
	}
	tooLong(t, x, seq(0, all[20:]...))
	y := made(t, atom("p"))
	for id := range api.MaxForms - 1 {
		y.And(id, id)
	}
	tooLong(t, y, seq(0, all...))
	tooLong(t, y, seq(1023))
}

// TestPrintLongNoForm: R2, ErrForm is told ahead of ErrLong, wherever the number stands that is no formula's.
func TestPrintLongNoForm(t *testing.T) {
	x := made(t, atom("p"))
	for id := range 100 {
		x.And(id, id)
	}
	tooLong(t, x, seq(0, 99))
	for _, s := range []api.Seq{seq(-1, 99), seq(101, 98, 99), seq(0, 99, 101), seq(99, 1023), seq(101, 0), seq(99, 0, 99, 512)} {
		if text, e := sequent.Print(x, s); text != "" || e != api.ErrForm {
			t.Errorf("%v |- %d: %d bytes, error %d", leftOf(s), s.Goal, len(text), e)
		}
	}
}
