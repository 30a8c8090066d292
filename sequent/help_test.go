package sequent_test

import (
	"math"
	"math/rand/v2"
	"slices"
	"strconv"
	"testing"

	"dictum/api"
	"dictum/formula"
	"dictum/sequent"
	"dictum/syntax"
	"dictum/token"
)

func atom(name string) api.Node { return api.Node{Kind: api.KAtom, Name: name} }

func bot() api.Node { return api.Node{Kind: api.KBot} }

func join(k api.Kind, l, r int) api.Node { return api.Node{Kind: k, L: l, R: r} }

func kinds() []api.Kind { return []api.Kind{api.KAnd, api.KOr, api.KImp} }

func newChance(seed uint64) *rand.Rand { return rand.New(rand.NewPCG(8, seed)) }

// seq is the sequent of these numbers, which may be no formulas'.
func seq(goal int, left ...int) api.Seq {
	s := api.Seq{Goal: goal}
	for _, id := range left {
		s.Left[id/64] |= 1 << (id % 64)
	}
	return s
}

// leftOf are the numbers of a left side, rising.
func leftOf(s api.Seq) []int {
	var l []int
	for id := range api.MaxForms {
		if s.Left[id/64]>>(id%64)&1 == 1 {
			l = append(l, id)
		}
	}
	return l
}

// made is the table of rows that are one.
func made(t *testing.T, rows ...api.Node) *formula.Table {
	t.Helper()
	x, e := formula.From(rows)
	if x == nil || e != api.OK {
		t.Fatalf("From(%v): error %d", rows, e)
	}
	return x
}

// filled has so many rows: those that are given and, behind them, atoms that stand nowhere else.
func filled(t *testing.T, rows []api.Node, many int) *formula.Table {
	t.Helper()
	x := made(t, rows...)
	for i := 0; x.Len() < many; i++ {
		if _, e := x.Atom("fill" + strconv.Itoa(i)); e != api.OK {
			t.Fatalf("row %d: error %d", x.Len(), e)
		}
	}
	return x
}

// read is the number that a formula's text has in the table, behind what its parts get.
func read(t *testing.T, x *formula.Table, text string) int {
	t.Helper()
	id, f := syntax.Parse(x, text)
	if f.Code != api.OK {
		t.Fatalf("%q: error %d at %v", text, f.Code, f.At)
	}
	return id
}

// same holds what is in a table against rows.
func same(t *testing.T, x *formula.Table, want []api.Node) {
	t.Helper()
	if got := x.Rows(); !slices.Equal(got, want) {
		t.Errorf("the table's rows: %v, not %v", got, want)
	}
}

// parses asks for that sequent of a text, and, if rows are told, for a table that has just these behind it.
func parses(t *testing.T, x *formula.Table, text string, want api.Seq, rows ...api.Node) {
	t.Helper()
	s, f := sequent.Parse(x, text)
	if s != want || f != (api.Fault{}) {
		t.Errorf("Parse(%.60q): %v |- %d, fault %v, not %v |- %d", text, leftOf(s), s.Goal, f, leftOf(want), want.Goal)
	}
	if len(rows) > 0 {
		same(t, x, rows)
	}
}

// fails asks for that fault beside the zero sequent, and for a table that is as it was.
func fails(t *testing.T, x *formula.Table, text string, want api.Fault) {
	t.Helper()
	rows := x.Rows()
	if s, f := sequent.Parse(x, text); s != (api.Seq{}) || f != want {
		t.Errorf("Parse(%.60q): %v |- %d, fault %v, not %v", text, leftOf(s), s.Goal, f, want)
	}
	if !slices.Equal(x.Rows(), rows) {
		t.Errorf("Parse(%.60q) has changed the table", text)
	}
}

// refuses asks for a fault at the spot of that byte.
func refuses(t *testing.T, x *formula.Table, text string, code api.Errno, off int) {
	t.Helper()
	fails(t, x, text, api.Fault{Code: code, At: token.At(text, off)})
}

// prints asks for a sequent's text.
func prints(t *testing.T, x *formula.Table, s api.Seq, want string) {
	t.Helper()
	if got, e := sequent.Print(x, s); got != want || e != api.OK {
		t.Errorf("Print(%v |- %d): %.80q, error %d, not %.80q", leftOf(s), s.Goal, got, e, want)
	}
}

// answers holds a number and an error against those that should be.
func answers(t *testing.T, what string, id int, e api.Errno, want int, wantE api.Errno) {
	t.Helper()
	if id != want || e != wantE {
		t.Errorf("%s: %d, error %d, not %d, error %d", what, id, e, want, wantE)
	}
}

// noForms are numbers that no formula of a table with so many rows has.
func noForms(many int) []int {
	return []int{-1, -2, -64, -many - 1, math.MinInt, math.MinInt + 1, many, many + 1, 2*many + 7, api.MaxForms, api.MaxForms + 1, math.MaxInt - 1, math.MaxInt}
}

// someRows are rows of a table by chance, with up to so many atoms, each joined of some of the last near rows ahead of it.
func someRows(chance *rand.Rand, many, near, atoms int) []api.Node {
	x := formula.New()
	x.Atom("a")
	for x.Len() < many {
		part := func() int { return x.Len() - 1 - chance.IntN(min(near, x.Len())) }
		switch chance.IntN(10) {
		case 0, 1:
			x.Atom(string(rune('a' + chance.IntN(atoms))))
		case 2:
			x.Bot()
		default:
			x.Put(join(kinds()[chance.IntN(3)], part(), part()))
		}
	}
	return x.Rows()
}

// someSeq is a sequent by chance of a table with so many rows, with up to most formulas on the left.
func someSeq(chance *rand.Rand, many, most int) api.Seq {
	var left []int
	for range chance.IntN(most + 1) {
		left = append(left, chance.IntN(many))
	}
	return seq(chance.IntN(many), left...)
}
