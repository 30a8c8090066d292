package subst_test

import (
	"testing"

	"dictum/api"
	"dictum/formula"
	"dictum/subst"
)

// TestSimpleRows: P7.5, each row of the chapter's table.
func TestSimpleRows(t *testing.T) {
	for _, x := range [][2]string{
		{"false & p", "false"}, {"p & false", "false"}, {"true & p", "p"}, {"p & true", "p"}, {"p & p", "p"},
		{"true | p", "true"}, {"p | true", "true"}, {"false | p", "p"}, {"p | false", "p"}, {"p | p", "p"},
		{"false -> p", "true"}, {"p -> true", "true"}, {"p -> p", "true"}, {"true -> p", "p"},
		{"p & q", "p & q"}, {"p | q", "p | q"}, {"p -> q", "p -> q"}, {"~p", "~p"}, {"p", "p"}, {"false", "false"}, {"true", "true"},
	} {
		simple(t, x[0], x[1])
	}
}

// TestSimpleSeveral: P7.5, where several rows fit.
func TestSimpleSeveral(t *testing.T) {
	for _, x := range [][2]string{
		{"false & false", "false"}, {"false & true", "false"}, {"true & false", "false"}, {"true & true", "true"},
		{"false | false", "false"}, {"false | true", "true"}, {"true | false", "true"}, {"true | true", "true"},
		{"false -> false", "true"}, {"false -> true", "true"}, {"true -> false", "false"}, {"true -> true", "true"},
	} {
		simple(t, x[0], x[1])
	}
}

// TestSimpleWithin: P7.5, images of images.
func TestSimpleWithin(t *testing.T) {
	for _, x := range [][2]string{
		{"~true", "false"}, {"~false", "true"}, {"~~true", "true"}, {"~~p", "~~p"}, {"~~~p", "~~~p"},
		{"(p & true) & (q | false)", "p & q"},
		{"(p & true) -> (p | false)", "true"},
		{"(p -> p) -> q", "q"},
		{"p -> (q -> r -> r)", "true"},
		{"(p | (q -> q)) & r", "r"},
		{"p & ~(q -> q)", "false"},
		{"(p & (q -> q)) | (p & (r -> r))", "p"},
		{"p & q & ~p", "p & q & ~p"},
		{"p | ~p", "p | ~p"},
		{"(p & q) & (q & p)", "(p & q) & (q & p)"},
		{"(false -> p) -> (p -> true) & s", "s"},
		{"(p & (q | q)) -> (p & p) & q", "true"},
		{"true -> (true -> ~(p & p))", "~p"},
	} {
		simple(t, x[0], x[1])
	}
}

// TestSimpleTrueRows: P7.5, true becomes a row where it is an image, and nowhere else.
func TestSimpleTrueRows(t *testing.T) {
	top := join(api.KImp, 1, 1)
	for _, x := range []struct {
		rows, more []api.Node
		want       int
	}{
		{[]api.Node{atom("p"), join(api.KImp, 0, 0)}, []api.Node{bot(), join(api.KImp, 2, 2)}, 3},
		{[]api.Node{atom("p"), bot(), join(api.KImp, 1, 0)}, []api.Node{top}, 3},
		{[]api.Node{atom("p"), bot(), top, join(api.KOr, 2, 0)}, nil, 2},
		{[]api.Node{atom("p"), atom("q"), join(api.KImp, 0, 0), join(api.KAnd, 1, 2)}, []api.Node{bot(), join(api.KImp, 4, 4)}, 1},
		{[]api.Node{atom("p"), atom("q"), join(api.KImp, 0, 1), join(api.KAnd, 2, 2)}, nil, 2},
		{[]api.Node{atom("p"), bot(), join(api.KOr, 0, 1), join(api.KAnd, 2, 1)}, nil, 1},
		{[]api.Node{atom("p"), bot(), join(api.KImp, 0, 1)}, nil, 2},
		{[]api.Node{atom("p"), bot(), join(api.KOr, 0, 1), atom("q"), join(api.KAnd, 2, 3), join(api.KAnd, 4, 1)}, []api.Node{join(api.KAnd, 0, 3)}, 1},
		{[]api.Node{atom("p")}, nil, 0},
		{[]api.Node{bot()}, nil, 0},
		{[]api.Node{atom("p"), atom("q"), join(api.KAnd, 0, 0), join(api.KImp, 2, 1), join(api.KOr, 3, 2)}, []api.Node{join(api.KImp, 0, 1), join(api.KOr, 5, 0)}, 6},
	} {
		f := made(t, x.rows)
		id, e := subst.Simple(f, len(x.rows)-1)
		answers(t, "Simple", id, e, x.want, api.OK)
		same(t, f, append(x.rows, x.more...))
	}
}

// TestSimpleAgain: P7.7, Simple of what is Simple is itself, and the table gets no rows by it.
func TestSimpleAgain(t *testing.T) {
	chance := newChance(3)
	for range 2000 {
		f := formula.New()
		for _, n := range someRows(chance, 3+chance.IntN(25), 6, 3) {
			f.Put(n)
		}
		id, _ := subst.Simple(f, f.Len()-1)
		rows := f.Rows()
		again, e := subst.Simple(f, id)
		answers(t, "Simple again", again, e, id, api.OK)
		same(t, f, rows)
	}
}
