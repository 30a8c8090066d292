package classical_test

import (
	"iter"
	"math"
	"math/rand/v2"
	"slices"
	"strconv"
	"strings"
	"testing"

	"dictum/api"
	"dictum/classical"
	"dictum/formula"
	"dictum/syntax"
	"dictum/term"
)

func newChance(seed uint64) *rand.Rand { return rand.New(rand.NewPCG(22, seed)) }

func atom(name string) api.Node { return api.Node{Kind: api.KAtom, Name: name} }

func bot() api.Node { return api.Node{Kind: api.KBot} }

func join(k api.Kind, l, r int) api.Node { return api.Node{Kind: k, L: l, R: r} }

func and(l, r int) api.Node { return join(api.KAnd, l, r) }

func or(l, r int) api.Node { return join(api.KOr, l, r) }

func imp(l, r int) api.Node { return join(api.KImp, l, r) }

// to is a list of numbers.
func to(l ...int) []int { return l }

// made is the table of rows that are one.
func made(t *testing.T, rows ...api.Node) *formula.Table {
	t.Helper()
	x, e := formula.From(rows)
	if x == nil || e != api.OK {
		t.Fatalf("From(%v): error %d", rows, e)
	}
	return x
}

// filled has so many rows: those that are given and, behind them, atoms that stand nowhere else.
func filled(t *testing.T, rows []api.Node, many int) *formula.Table {
	t.Helper()
	x := made(t, rows...)
	for i := 0; x.Len() < many; i++ {
		if _, e := x.Atom("fill" + strconv.Itoa(i)); e != api.OK {
			t.Fatalf("row %d: error %d", x.Len(), e)
		}
	}
	return x
}

// read is the number that a formula's text has in the table, behind what its parts get.
func read(t *testing.T, x *formula.Table, text string) int {
	t.Helper()
	id, f := syntax.Parse(x, text)
	if f.Code != api.OK {
		t.Fatalf("%.300q: error %d at %v", text, f.Code, f.At)
	}
	return id
}

// readAll are the numbers of several texts' formulas in a table of their own.
func readAll(t *testing.T, texts ...string) (*formula.Table, []int) {
	t.Helper()
	x := formula.New()
	var ids []int
	for _, text := range texts {
		ids = append(ids, read(t, x, text))
	}
	return x, ids
}

// says is the text of a formula.
func says(t *testing.T, x *formula.Table, id int) string {
	t.Helper()
	text, e := syntax.Print(x, id)
	if e != api.OK {
		t.Fatalf("formula %d: error %d", id, e)
	}
	return text
}

// many are the names p0, p1 and so on.
func many(n int) []string {
	var out []string
	for i := range n {
		out = append(out, "p"+strconv.Itoa(i))
	}
	return out
}

// excluded is the text of a formula that every row makes true, of so many atoms: its double negation needs the more sequents the more atoms there are.
func excluded(atoms int) string {
	var out []string
	for _, name := range many(atoms) {
		out = append(out, "("+name+" | ~"+name+")")
	}
	return strings.Join(out, " & ")
}

// digits are values as a text: 1 of true, 0 of false.
func digits(values []bool) string {
	var out strings.Builder
	for _, value := range values {
		if value {
			out.WriteByte('1')
		} else {
			out.WriteByte('0')
		}
	}
	return out.String()
}

// collected is what an iterator goes through.
func collected(t *testing.T, seq iter.Seq[int]) []int {
	t.Helper()
	if seq == nil {
		t.Fatal("no iterator")
	}
	var out []int
	for n := range seq {
		out = append(out, n)
	}
	return out
}

// cloneTerm is a term that shares nothing with another one.
func cloneTerm(x api.Term) api.Term {
	x.Sub = slices.Clone(x.Sub)
	for i := range x.Sub {
		x.Sub[i] = cloneTerm(x.Sub[i])
	}
	return x
}

// clone is an answer that shares nothing with another one.
func clone(c api.Classic) api.Classic {
	c.Rows, c.Term, c.Atoms, c.Row = slices.Clone(c.Rows), cloneTerm(c.Term), slices.Clone(c.Atoms), slices.Clone(c.Row)
	return c
}

// alikeTerm tells whether two terms are the same in all; nil and empty lists are.
func alikeTerm(a, b api.Term) bool {
	return a.Kind == b.Kind && a.Name == b.Name && a.Other == b.Other && a.Form == b.Form && slices.EqualFunc(a.Sub, b.Sub, alikeTerm)
}

// alike tells whether two answers are the same in all; nil and empty lists are.
func alike(a, b api.Classic) bool {
	return a.Proved == b.Proved && a.Form == b.Form && a.Visits == b.Visits && slices.Equal(a.Rows, b.Rows) && alikeTerm(a.Term, b.Term) && slices.Equal(a.Atoms, b.Atoms) && slices.Equal(a.Row, b.Row)
}

// show is an answer as a test tells it, but not too much of it.
func show(c api.Classic) string {
	out := "proved " + strconv.FormatBool(c.Proved) + ", form " + strconv.Itoa(c.Form) + " of " + strconv.Itoa(len(c.Rows)) + ", visits " + strconv.Itoa(c.Visits)
	return out + ", a term of " + strconv.Itoa(term.Size(c.Term)) + " nodes, atoms " + strings.Join(c.Atoms, " ") + ", row " + digits(c.Row)
}

// untouched asks that a call leaves a table as it was.
func untouched(t *testing.T, x *formula.Table, call func()) {
	t.Helper()
	rows := x.Rows()
	call()
	if !slices.Equal(rows, x.Rows()) {
		t.Fatalf("the table became %v, and was %v", x.Rows(), rows)
	}
}

// making is a call that makes a formula.
type making struct {
	name  string
	of    func(t *formula.Table, id int) (int, api.Errno)
	plain func(p *plain, id int) int
}

// makings are the calls of P22.3 and P22.4, each with the chapter's words for it.
func makings() []making {
	return []making{
		{"Double", classical.Double, (*plain).double},
		{"Kolmogorov", classical.Kolmogorov, (*plain).kolmogorov},
		{"Gentzen", classical.Gentzen, (*plain).gentzen},
		{"Negations", classical.Negations, (*plain).negations},
	}
}

// noMade are tables that no call made.
func noMade() []*formula.Table { return []*formula.Table{nil, {}, new(formula.Table)} }

// noForms are numbers that no formula of a table with so many rows has.
func noForms(many int) []int {
	return []int{-1, -2, -64, -many - 1, math.MinInt, math.MinInt + 1, many, many + 1, 2*many + 7, api.MaxForms, api.MaxForms + 1, 1 << 32, 1<<32 + 1, math.MaxInt - 1, math.MaxInt}
}

// atomNames are those of formulas by chance; their order by bytes is another one.
func atomNames() []string {
	return []string{"q", "p", "P", "p'", "p0", "p_", "r", "p00", "Q", "z9", "a", "B"}
}

// someRows are rows of a table by chance, with up to so many atoms, each joined of some of the last near rows ahead of it.
func someRows(chance *rand.Rand, many, near, atoms int) []api.Node {
	x := formula.New()
	x.Atom(atomNames()[chance.IntN(atoms)])
	for x.Len() < many {
		part := func() int { return x.Len() - 1 - chance.IntN(min(near, x.Len())) }
		switch chance.IntN(12) {
		case 0, 1, 2:
			x.Atom(atomNames()[chance.IntN(atoms)])
		case 3:
			x.Bot()
		default:
			x.Put(join(api.KAnd+api.Kind(chance.IntN(3)), part(), part()))
		}
	}
	return x.Rows()
}

// alwaysTexts are formulas that every row makes true; some of them intuitionistic logic has, most of them it has not.
func alwaysTexts() []string {
	return []string{
		"true",
		"p -> p",
		"false -> p",
		"p & q -> q & p",
		"p | ~p",
		"~~p -> p",
		"((p -> q) -> p) -> p",
		"~p | ~~p",
		"(p -> q) | (q -> p)",
		"~(p & q) -> ~p | ~q",
		"(p -> q) -> ~p | q",
		"(~q -> ~p) -> p -> q",
		"~(p -> q) -> p & ~q",
		"(~p -> q | r) -> (~p -> q) | (~p -> r)",
		"p | (p -> q | ~q)",
		"((p -> q) -> q) -> p | q",
		"(~p -> p) -> p",
		"(p <-> (q <-> r)) -> ((p <-> q) <-> r)",
		"~~(p | q) -> ~~p | ~~q",
		"~~~p <-> ~p",
		"(p & q -> r) <-> (p -> q -> r)",
	}
}

// sometimesTexts are formulas that some row, or every row, makes false.
func sometimesTexts() []string {
	return []string{
		"p",
		"~p",
		"false",
		"~true",
		"p & ~p",
		"p & q",
		"p | q",
		"p -> q",
		"~p -> q",
		"p <-> q",
		"p <-> ~p",
		"~~p & (q -> p)",
		"(p -> q) -> p",
		"(p | q) & ~(p & q)",
		"p -> (q -> r)",
		"(p -> q) -> r",
		"p | q -> p & q",
		"p & (p | ~p)",
	}
}
