package decide_test

import (
	"math"
	"math/rand/v2"
	"slices"
	"strconv"
	"strings"
	"testing"

	"dictum/api"
	"dictum/formula"
	"dictum/syntax"
	"dictum/term"
	"dictum/worlds"
)

func newChance(seed uint64) *rand.Rand { return rand.New(rand.NewPCG(21, seed)) }

func atom(name string) api.Node { return api.Node{Kind: api.KAtom, Name: name} }

func bot() api.Node { return api.Node{Kind: api.KBot} }

func join(k api.Kind, l, r int) api.Node { return api.Node{Kind: k, L: l, R: r} }

func imp(l, r int) api.Node { return join(api.KImp, l, r) }

func v(name string) api.Term { return api.Term{Kind: api.TVar, Name: name} }

func of(k api.TermKind, parts ...api.Term) api.Term { return api.Term{Kind: k, Sub: parts} }

func lam(name string, a api.Term) api.Term {
	return api.Term{Kind: api.TLam, Name: name, Sub: []api.Term{a}}
}

func let(name string, a, b api.Term) api.Term {
	return api.Term{Kind: api.TLet, Name: name, Sub: []api.Term{a, b}}
}

func the(a api.Term, form int) api.Term {
	return api.Term{Kind: api.TThe, Form: form, Sub: []api.Term{a}}
}

// to is a row of Up, or another list of numbers.
func to(l ...int) []int { return l }

// up is a model in which nothing is true.
func up(rows ...[]int) api.Model { return api.Model{Up: rows, Val: make([][]string, len(rows))} }

// with is the model with these names true, a word a world, commas between them.
func with(m api.Model, val ...string) api.Model {
	m.Val = nil
	for _, s := range val {
		m.Val = append(m.Val, strings.FieldsFunc(s, func(r rune) bool { return r == ',' }))
	}
	return m
}

// chain has so many worlds, each below the next one.
func chain(many int) api.Model {
	m := up(make([][]int, many)...)
	for w := range many - 1 {
		m.Up[w] = to(w + 1)
	}
	return m
}

// made is the table of rows that are one.
func made(t *testing.T, rows ...api.Node) *formula.Table {
	t.Helper()
	x, e := formula.From(rows)
	if x == nil || e != api.OK {
		t.Fatalf("From(%v): error %d", rows, e)
	}
	return x
}

// filled has so many rows: those that are given and, behind them, atoms that stand nowhere else.
func filled(t *testing.T, rows []api.Node, many int) *formula.Table {
	t.Helper()
	x := made(t, rows...)
	for i := 0; x.Len() < many; i++ {
		if _, e := x.Atom("fill" + strconv.Itoa(i)); e != api.OK {
			t.Fatalf("row %d: error %d", x.Len(), e)
		}
	}
	return x
}

// read is the number that a formula's text has in the table, behind what its parts get.
func read(t *testing.T, x *formula.Table, text string) int {
	t.Helper()
	id, f := syntax.Parse(x, text)
	if f.Code != api.OK {
		t.Fatalf("%.300q: error %d at %v", text, f.Code, f.At)
	}
	return id
}

// readAll are the numbers of several texts' formulas in a table of their own.
func readAll(t *testing.T, texts ...string) (*formula.Table, []int) {
	t.Helper()
	x := formula.New()
	var ids []int
	for _, text := range texts {
		ids = append(ids, read(t, x, text))
	}
	return x, ids
}

// says is the text of a formula.
func says(t *testing.T, x *formula.Table, id int) string {
	t.Helper()
	text, e := syntax.Print(x, id)
	if e != api.OK {
		t.Fatalf("formula %d: error %d", id, e)
	}
	return text
}

// cloneTerm is a term that shares nothing with another one.
func cloneTerm(x api.Term) api.Term {
	x.Sub = slices.Clone(x.Sub)
	for i := range x.Sub {
		x.Sub[i] = cloneTerm(x.Sub[i])
	}
	return x
}

// clone is an answer that shares nothing with another one.
func clone(a api.Answer) api.Answer {
	a.Rows, a.Term = slices.Clone(a.Rows), cloneTerm(a.Term)
	a.Model.Up, a.Model.Val = slices.Clone(a.Model.Up), slices.Clone(a.Model.Val)
	for i, row := range a.Model.Up {
		a.Model.Up[i] = slices.Clone(row)
	}
	for i, row := range a.Model.Val {
		a.Model.Val[i] = slices.Clone(row)
	}
	return a
}

// alikeTerm tells whether two terms are the same in all; nil and empty lists are.
func alikeTerm(a, b api.Term) bool {
	return a.Kind == b.Kind && a.Name == b.Name && a.Other == b.Other && a.Form == b.Form && slices.EqualFunc(a.Sub, b.Sub, alikeTerm)
}

// alikeModel tells whether two models have the same rows; nil and empty ones are.
func alikeModel(a, b api.Model) bool {
	return slices.EqualFunc(a.Up, b.Up, slices.Equal[[]int]) && slices.EqualFunc(a.Val, b.Val, slices.Equal[[]string])
}

// alike tells whether two answers are the same in all; nil and empty lists are.
func alike(a, b api.Answer) bool {
	return a.Proved == b.Proved && a.Form == b.Form && a.Visits == b.Visits && slices.Equal(a.Rows, b.Rows) && alikeTerm(a.Term, b.Term) && alikeModel(a.Model, b.Model)
}

// zero tells whether there is nothing in an answer.
func zero(a api.Answer) bool { return alike(a, api.Answer{}) }

// showNumbers are numbers as a test tells them.
func showNumbers(l []int) string {
	var out []string
	for _, n := range l {
		out = append(out, strconv.Itoa(n))
	}
	return strings.Join(out, " ")
}

// short is the beginning of a text.
func short(s string) string {
	if len(s) > 200 {
		return s[:200] + ".."
	}
	return s
}

// showTerm is a term as a test tells it, whatever it holds, but no more than a line of it.
func showTerm(x api.Term) string {
	var out strings.Builder
	var walk func(x api.Term)
	walk = func(x api.Term) {
		if out.Len() > 200 {
			return
		}
		out.WriteString("{" + strconv.Itoa(int(x.Kind)) + " " + x.Name + " " + x.Other + " " + strconv.Itoa(x.Form))
		for _, part := range x.Sub {
			walk(part)
		}
		out.WriteString("}")
	}
	walk(x)
	return out.String()
}

// show is an answer as a test tells it, but not too much of it.
func show(a api.Answer) string {
	out := "proved " + strconv.FormatBool(a.Proved) + ", form " + strconv.Itoa(a.Form) + " of " + strconv.Itoa(len(a.Rows)) + ", visits " + strconv.Itoa(a.Visits)
	out += ", term of " + strconv.Itoa(term.Size(a.Term)) + " nodes and " + strconv.Itoa(term.Deep(a.Term)) + " levels " + showTerm(a.Term)
	return out + ", " + strconv.Itoa(len(a.Model.Up)) + " worlds " + short(strings.ReplaceAll(worlds.Text(a.Model), "\n", "; "))
}

// untouched asks that a call leaves a table, a list of numbers and an answer as they were.
func untouched(t *testing.T, x *formula.Table, l []int, a api.Answer, call func()) {
	t.Helper()
	rows, numbers, before := x.Rows(), slices.Clone(l), clone(a)
	call()
	if !slices.Equal(rows, x.Rows()) {
		t.Fatalf("the table became %v, and was %v", x.Rows(), rows)
	}
	if !slices.Equal(numbers, l) {
		t.Fatalf("the numbers became %v, and were %v", l, numbers)
	}
	if !alike(before, a) {
		t.Fatalf("the answer became %s, and was %s", show(a), show(before))
	}
}

// noMade are tables that no call made.
func noMade() []*formula.Table { return []*formula.Table{nil, {}, new(formula.Table)} }

// noForms are numbers that no formula of a table with so many rows has.
func noForms(many int) []int {
	return []int{-1, -2, -64, -many - 1, math.MinInt, math.MinInt + 1, many, many + 1, 2*many + 7, api.MaxForms, api.MaxForms + 1, 1 << 32, 1<<32 + 1, math.MaxInt - 1, math.MaxInt}
}

// atomNames are those of formulas by chance; their order by bytes is another one.
func atomNames() []string { return []string{"q", "p", "P", "p'", "p0"} }

// someRows are rows of a table by chance, with up to so many atoms, each joined of some of the last near rows ahead of it.
func someRows(chance *rand.Rand, many, near, atoms int) []api.Node {
	x := formula.New()
	x.Atom("p")
	for x.Len() < many {
		part := func() int { return x.Len() - 1 - chance.IntN(min(near, x.Len())) }
		switch chance.IntN(14) {
		case 0, 1:
			x.Atom(atomNames()[chance.IntN(atoms)])
		case 2:
			x.Bot()
		case 3, 4, 5, 6: // most of the rules are of implications
			x.Imp(part(), part())
		default:
			x.Put(join(api.KAnd+api.Kind(chance.IntN(3)), part(), part()))
		}
	}
	return x.Rows()
}

// someText is a formula's text by chance, with up to so many atoms, of about so many tokens.
func someText(chance *rand.Rand, tokens, atoms int) string {
	if tokens <= 1 {
		switch chance.IntN(10) {
		case 0:
			return "false"
		case 1:
			return "true"
		}
		return atomNames()[chance.IntN(atoms)]
	}
	if chance.IntN(5) == 0 {
		return "~(" + someText(chance, tokens-1, atoms) + ")"
	}
	left := 1 + chance.IntN(tokens-1)
	sign := []string{" & ", " | ", " -> ", " -> ", " <-> "}[chance.IntN(5)]
	return "(" + someText(chance, left, atoms) + ")" + sign + "(" + someText(chance, tokens-1-left, atoms) + ")"
}

// provedTexts are formulas that intuitionistic logic has.
func provedTexts() []string {
	return []string{
		"true",
		"p -> p",
		"false -> p",
		"p -> q -> p",
		"(p -> q -> r) -> (p -> q) -> p -> r",
		"p & q -> q & p",
		"p | q -> q | p",
		"p & (q | r) <-> p & q | p & r",
		"p | q & r <-> (p | q) & (p | r)",
		"~~(p | ~p)",
		"~~(((p -> q) -> p) -> p)",
		"~~~p <-> ~p",
		"p -> ~~p",
		"~(p | q) <-> ~p & ~q",
		"~p | ~q -> ~(p & q)",
		"~~(p & q) <-> ~~p & ~~q",
		"~~(p -> q) <-> (~~p -> ~~q)",
		"(p -> q) -> ~q -> ~p",
		"~p | q -> p -> q",
		"~(p <-> ~p)",
		"((((p -> q) -> p) -> p) -> q) -> q",
		"(p | q) & ~p -> q",
		"p | ~p -> ~~p -> p",
		"(p & q -> r) <-> (p -> q -> r)",
		"(p | q -> r) <-> (p -> r) & (q -> r)",
		"((p <-> q) -> p & q & r) & ((q <-> r) -> p & q & r) & ((r <-> p) -> p & q & r) -> p & q & r",
	}
}

// refutedTexts are formulas that intuitionistic logic does not have, though classical logic has most of them.
func refutedTexts() []string {
	return []string{
		"p",
		"false",
		"p & q",
		"p -> q",
		"p | ~p",
		"~~p -> p",
		"((p -> q) -> p) -> p",
		"~p | ~~p",
		"(p -> q) | (q -> p)",
		"~(p & q) -> ~p | ~q",
		"(p -> q) -> ~p | q",
		"(~q -> ~p) -> p -> q",
		"~(p -> q) -> p & ~q",
		"~(p -> q) -> p",
		"(~p -> q | r) -> (~p -> q) | (~p -> r)",
		"((~~p -> p) -> p | ~p) -> ~p | ~~p",
		"p | (p -> q | ~q)",
		"(p -> q | r) -> (p -> q) | (p -> r)",
		"((p -> q) -> q) -> p | q",
		"(~p -> p) -> p",
		"(p <-> (q <-> r)) -> ((p <-> q) <-> r)",
		"~~(p | q) -> ~~p | ~~q",
		"true -> false",
	}
}
