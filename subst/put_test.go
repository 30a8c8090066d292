package subst_test

import (
	"slices"
	"strings"
	"testing"

	"dictum/api"
	"dictum/formula"
	"dictum/subst"
)

// TestPut: P7.2, atoms in each place of formulas of each kind.
func TestPut(t *testing.T) {
	puts(t, "p & q", "r & q", "p by r")
	puts(t, "p & q", "p & r", "q by r")
	puts(t, "p | q", "r | s", "q by s", "p by r")
	puts(t, "p -> q", "(p -> q) -> q", "p by p -> q")
	puts(t, "~p", "~~p", "p by ~p")
	puts(t, "p & (p | (p -> q & p))", "~r & (~r | (~r -> q & ~r))", "p by ~r")
	puts(t, "p", "false", "p by false")
	puts(t, "p", "p & p", "p by p & p")
	puts(t, "false", "false", "p by q")
	puts(t, "true", "true", "p by q")
	puts(t, "p -> p & q", "false -> false & q", "p by false")
	puts(t, strings.Repeat("p", api.MaxName), "q", strings.Repeat("p", api.MaxName)+" by q")
	puts(t, "p' & p", "p' & q", "p by q")
	puts(t, "p & P & p1 & p_", "p & q & p1 & r", "P by q", "p_ by r")
}

// TestPutAtOneTime: P7.2, what is put in is not looked at again.
func TestPutAtOneTime(t *testing.T) {
	puts(t, "p & q", "q & p", "p by q", "q by p")
	puts(t, "p & q", "q & p", "q by p", "p by q")
	puts(t, "p & q & r", "q & r & p", "p by q", "q by r", "r by p")
	puts(t, "p | q", "(p & q) | (p | q)", "p by p & q", "q by p | q")
	puts(t, "p -> q", "(p -> q) -> (p -> q)", "p by p -> q", "q by p -> q")
}

// TestPutNothing: P7.2 and P7.7, no formulas at all, names that do not stand there, and atoms by themselves change nothing, nor does the table get rows.
func TestPutNothing(t *testing.T) {
	for _, text := range []string{"p", "false", "true", "p & q -> r", "p | p", "~(p -> q) | ~p"} {
		f := formula.New()
		id := read(t, f, text)
		lists := [][]api.Hyp{nil, {}, list(t, f, "s by p & q"), list(t, f, "s by t", "q1 by p", "P by q"), list(t, f, "p by p"), list(t, f, "r by r", "p by p", "q by q", "s by false")}
		rows := f.Rows()
		for _, by := range lists {
			got, e := subst.Put(f, id, by)
			answers(t, "Put of "+text, got, e, id, api.OK)
			same(t, f, rows)
		}
	}
}

// TestPutRows: P7.1 and R9, what is made stands behind what was there, from the least number on, and what is one already is not put again.
func TestPutRows(t *testing.T) {
	rows := []api.Node{atom("p"), atom("q"), join(api.KImp, 0, 1), join(api.KAnd, 0, 0), join(api.KOr, 3, 2), atom("r"), join(api.KImp, 5, 1)}
	f := made(t, rows)
	id, e := subst.Put(f, 4, []api.Hyp{{Name: "p", Form: 5}})
	answers(t, "Put", id, e, 8, api.OK)
	rows = append(rows, join(api.KAnd, 5, 5), join(api.KOr, 7, 6))
	same(t, f, rows)
	again, e := subst.Put(f, 4, []api.Hyp{{Name: "p", Form: 5}})
	answers(t, "Put again", again, e, 8, api.OK)
	same(t, f, rows)
}

// TestPutAhead: P7.1, an image may stand ahead of the formula, and behind it.
func TestPutAhead(t *testing.T) {
	rows := []api.Node{bot(), join(api.KImp, 0, 0), atom("p"), join(api.KImp, 2, 2)}
	f := made(t, rows)
	id, e := subst.Put(f, 3, []api.Hyp{{Name: "p", Form: 0}})
	answers(t, "by false", id, e, 1, api.OK)
	id, e = subst.Put(f, 3, []api.Hyp{{Name: "p", Form: 3}})
	answers(t, "by itself", id, e, 4, api.OK)
	same(t, f, append(rows, join(api.KImp, 3, 3)))
}

// doubled are p, q and, behind them, rows of which each joins the one ahead of it with itself, the first one p.
func doubled(many int) []api.Node {
	rows := []api.Node{atom("p"), atom("q"), join(api.KAnd, 0, 0)}
	for i := 3; i < many; i++ {
		rows = append(rows, join(kinds()[i%3], i-1, i-1))
	}
	return rows
}

// TestShared: P7.1 and P7.4, formulas whose trees nobody could go through.
func TestShared(t *testing.T) {
	f := made(t, doubled(400))
	id, e := subst.Put(f, 399, []api.Hyp{{Name: "p", Form: 1}})
	answers(t, "Put", id, e, 797, api.OK)
	back, e := subst.Put(f, id, []api.Hyp{{Name: "q", Form: 0}})
	answers(t, "Put back", back, e, 399, api.OK)
	if l, ok, e := subst.Match(f, 399, id); !slices.Equal(l, []api.Hyp{{Name: "p", Form: 1}}) || !ok || e != api.OK {
		t.Errorf("%v, %v, error %d", l, ok, e)
	}
	if f.Len() != 798 {
		t.Errorf("%d rows", f.Len())
	}
	f = made(t, doubled(400))
	id, e = subst.Replace(f, 399, 2, 1)
	answers(t, "Replace", id, e, 796, api.OK)
	id, e = subst.Simple(f, 3)
	answers(t, "Simple", id, e, 0, api.OK)
}

// TestFrame: P7.6, one hole.
func TestFrame(t *testing.T) {
	for _, x := range [][4]string{
		{"p & hole", "hole", "q", "p & q"},
		{"hole -> hole", "hole", "hole -> p", "(hole -> p) -> (hole -> p)"},
		{"p", "hole", "q", "p"},
		{"hole", "hole", "false", "false"},
		{"hole | q", "q", "hole", "hole | hole"},
		{"false", "p", "p", "false"},
	} {
		f := formula.New()
		id, fill := read(t, f, x[0]), read(t, f, x[2])
		g := f.Copy()
		got, e := subst.Frame(f, id, x[1], fill)
		also, _ := subst.Put(g, id, []api.Hyp{{Name: x[1], Form: fill}})
		same(t, f, g.Rows())
		answers(t, "Frame of "+x[0], got, e, read(t, f, x[3]), api.OK)
		answers(t, "Put of "+x[0], also, e, got, api.OK)
	}
}

// TestFrameNames: P7.6, a hole that is no name.
func TestFrameNames(t *testing.T) {
	rows := []api.Node{atom("p"), bot(), join(api.KImp, 0, 1)}
	f := made(t, rows)
	for _, name := range noNames() {
		for id := range rows {
			got, e := subst.Frame(f, id, name, 0)
			answers(t, "Frame of "+name, got, e, 0, api.ErrAtom)
		}
	}
	same(t, f, rows)
}
