package logics_test

import (
	"math"
	"math/rand/v2"
	"slices"
	"strconv"
	"strings"
	"testing"

	"dictum/api"
	"dictum/formula"
	"dictum/syntax"
	"dictum/worlds"
)

func newChance(seed uint64) *rand.Rand { return rand.New(rand.NewPCG(24, seed)) }

// to is a row of Up, or another list of numbers.
func to(l ...int) []int { return l }

// run are the numbers from one to ahead of another one.
func run(a, b int) []int {
	var l []int
	for ; a < b; a++ {
		l = append(l, a)
	}
	return l
}

// noNumbers are numbers that are not from one to another one.
func noNumbers(low, high int) []int {
	all := []int{math.MinInt, math.MinInt + 1, -1 << 32, -65, -64, -2, -1, 0, 1, 2, 63, 64, 65, 1 << 16, 1 << 32, 1<<32 + 1, 1<<32 + 2, 1 << 62, math.MaxInt - 1, math.MaxInt, low - 1, high + 1}
	return slices.DeleteFunc(all, func(n int) bool { return n >= low && n <= high })
}

// up is a model in which nothing is true.
func up(rows ...[]int) api.Model { return api.Model{Up: rows, Val: make([][]string, len(rows))} }

// with is the model with these names true, a word a world, commas between them.
func with(m api.Model, val ...string) api.Model {
	m.Val = nil
	for _, s := range val {
		m.Val = append(m.Val, strings.FieldsFunc(s, func(r rune) bool { return r == ',' }))
	}
	return m
}

// apart has so many worlds, none above another one.
func apart(many int) api.Model { return up(make([][]int, many)...) }

// line has so many worlds, each below the next one.
func line(many int) api.Model {
	m := apart(many)
	for w := range many - 1 {
		m.Up[w] = to(w + 1)
	}
	return m
}

// rooted has one more world, with the greatest number, below all others.
func rooted(m api.Model) api.Model {
	m = cloneModel(m)
	m.Up, m.Val = append(m.Up, run(0, len(m.Up))), append(m.Val, nil)
	return m
}

// topped has one more world, with the greatest number, above all others.
func topped(m api.Model) api.Model {
	m = cloneModel(m)
	for w := range m.Up {
		m.Up[w] = append(m.Up[w], len(m.Up))
	}
	m.Up, m.Val = append(m.Up, nil), append(m.Val, nil)
	return m
}

// beside has the worlds of one model, and behind them those of another one.
func beside(m, n api.Model) api.Model {
	m = cloneModel(m)
	first := len(m.Up)
	for w, row := range n.Up {
		var moved []int
		for _, v := range row {
			moved = append(moved, v+first)
		}
		m.Up, m.Val = append(m.Up, moved), append(m.Val, slices.Clone(n.Val[w]))
	}
	return m
}

// upsideDown has its worlds above one another the other way round, with nothing true.
func upsideDown(m api.Model) api.Model {
	n := apart(len(m.Up))
	for a, row := range m.Up {
		for _, b := range row {
			n.Up[b] = append(n.Up[b], a)
		}
	}
	return n
}

// reordered is the model of so many worlds whose world as[w] is what w was; the other ones are alone.
func reordered(m api.Model, many int, as []int) api.Model {
	n := apart(many)
	for w, row := range m.Up {
		for _, v := range row {
			n.Up[as[w]] = append(n.Up[as[w]], as[v])
		}
		n.Val[as[w]] = slices.Clone(m.Val[w])
	}
	return n
}

// cloneModel is a model that shares nothing with another one; rows that are nil stay so.
func cloneModel(m api.Model) api.Model {
	m.Up, m.Val = slices.Clone(m.Up), slices.Clone(m.Val)
	for w, row := range m.Up {
		m.Up[w] = slices.Clone(row)
	}
	for w, row := range m.Val {
		m.Val[w] = slices.Clone(row)
	}
	return m
}

// alike tells whether two models have the same rows; nil and empty ones are.
func alike(a, b api.Model) bool {
	return slices.EqualFunc(a.Up, b.Up, slices.Equal[[]int]) && slices.EqualFunc(a.Val, b.Val, slices.Equal[[]string])
}

// show is a model as a test tells it, but not too much of it.
func show(m api.Model) string {
	s := strings.ReplaceAll(worlds.Text(m), "\n", "; ")
	if len(s) > 300 {
		s = s[:300] + ".."
	}
	return strconv.Itoa(len(m.Up)) + " worlds: " + s
}

// unturned asks that a call leaves a model as it was.
func unturned(t *testing.T, m api.Model, call func()) {
	t.Helper()
	before := cloneModel(m)
	call()
	if !alike(before, m) {
		t.Fatalf("the model became %s, and was %s", show(m), show(before))
	}
}

// noModels are models that are not well-formed.
func noModels() []api.Model {
	return []api.Model{
		{},
		{Up: [][]int{}, Val: [][]string{}},
		{Up: [][]int{{}}},
		{Val: [][]string{{}}},
		{Up: [][]int{{}}, Val: [][]string{{}, {}}},
		{Up: make([][]int, 7), Val: make([][]string, 6)},
		up(to(1)),
		up(to(-1)),
		up(to(1), to(0)),
		up(to(1), to(2), to(0)),
		beside(apart(63), up(to(1), to(0))),
		with(up(to(1), nil), "p", ""),
		with(up(nil), "q,p"),
		with(up(nil), "p,p"),
		with(up(nil), "false"),
		with(up(nil), "1"),
		apart(api.MaxWorlds + 1),
		line(api.MaxWorlds + 1),
		apart(api.MaxWorlds + 64),
	}
}

// someFrame has rows by chance that are well-formed: worlds in an order of their own, rows that fall or say things twice or tell themselves, and an atom that is true from some worlds on.
func someFrame(r *rand.Rand, most int) api.Model {
	many := 1 + r.IntN(most)
	m, place := apart(many), r.Perm(many)
	for range r.IntN(3 * many) {
		a, b := r.IntN(many), r.IntN(many)
		if place[a] <= place[b] {
			m.Up[a] = append(m.Up[a], b)
		}
	}
	above := plainAbove(m.Up)
	for w := range many {
		if r.IntN(4) > 0 {
			continue
		}
		for v := range many {
			if above[w][v] {
				m.Val[v] = []string{"p"}
			}
		}
	}
	return m
}

func atom(name string) api.Node { return api.Node{Kind: api.KAtom, Name: name} }

func bot() api.Node { return api.Node{Kind: api.KBot} }

func join(k api.Kind, l, r int) api.Node { return api.Node{Kind: k, L: l, R: r} }

func and(l, r int) api.Node { return join(api.KAnd, l, r) }

func or(l, r int) api.Node { return join(api.KOr, l, r) }

func imp(l, r int) api.Node { return join(api.KImp, l, r) }

// made is the table of rows that are one.
func made(t *testing.T, rows ...api.Node) *formula.Table {
	t.Helper()
	x, e := formula.From(rows)
	if x == nil || e != api.OK {
		t.Fatalf("From(%v): error %d", rows, e)
	}
	return x
}

// filled is a table with so many rows, of which some are told and the others are atoms that no axiom has.
func filled(t *testing.T, many int, rows ...api.Node) *formula.Table {
	t.Helper()
	x := made(t, rows...)
	for i := 0; x.Len() < many; i++ {
		x.Atom("f" + strconv.Itoa(i))
	}
	return x
}

// read is the number that a formula's text has in the table.
func read(t *testing.T, x *formula.Table, text string) int {
	t.Helper()
	id, f := syntax.Parse(x, text)
	if f.Code != api.OK {
		t.Fatalf("%.300q: error %d at %v", text, f.Code, f.At)
	}
	return id
}

// untouched asks that a call leaves a table as it was.
func untouched(t *testing.T, x *formula.Table, call func()) {
	t.Helper()
	rows := x.Rows()
	call()
	if !slices.Equal(rows, x.Rows()) {
		t.Fatalf("the table became %v, and was %v", x.Rows(), rows)
	}
}

// hyps are truth values by names: words with the numbers behind them.
func hyps(text string) []api.Hyp {
	var l []api.Hyp
	words := strings.Fields(text)
	for i := 0; i+1 < len(words); i += 2 {
		n, _ := strconv.Atoi(words[i+1])
		l = append(l, api.Hyp{Name: words[i], Form: n})
	}
	return l
}

// byBytes are the names of formulas by chance, by bytes.
func byBytes() []string { return []string{"P", "p", "p'", "p0", "q"} }

// someRows are rows of a table by chance with some of these atoms, each joined of some of the last near rows ahead of it.
func someRows(r *rand.Rand, many, near int, names []string) []api.Node {
	x := formula.New()
	x.Atom(names[r.IntN(len(names))])
	for x.Len() < many {
		part := func() int { return x.Len() - 1 - r.IntN(min(near, x.Len())) }
		switch r.IntN(12) {
		case 0, 1, 2:
			x.Atom(names[r.IntN(len(names))])
		case 3:
			x.Bot()
		case 4:
			x.Not(part())
		default:
			x.Put(join(api.KAnd+api.Kind(r.IntN(3)), part(), part()))
		}
	}
	return x.Rows()[:many]
}

// someBy are truth values from 0 to n by chance for these names, in some order.
func someBy(r *rand.Rand, n int, names []string) []api.Hyp {
	var by []api.Hyp
	for _, i := range r.Perm(len(names)) {
		by = append(by, api.Hyp{Name: names[i], Form: r.IntN(n + 1)})
	}
	return by
}

// logic is one of the seven with its number.
type logic struct {
	k api.Logic
	n int
}

// all are the logics with each of their numbers.
func all() []logic {
	l := []logic{{api.LogicCL, 0}, {api.LogicLC, 0}, {api.LogicKC, 0}, {api.LogicKP, 0}, {api.LogicSL, 0}, {api.LogicSM, 0}}
	for n := 1; n <= api.MaxBound; n++ {
		l = append(l, logic{api.LogicBD, n})
	}
	return l
}

// ordered are those of which an order is told.
func ordered() []logic {
	return slices.DeleteFunc(all(), func(l logic) bool { return l.k == api.LogicSL })
}

// text is the axiom, as api names it.
func (l logic) text() string {
	switch l.k {
	case api.LogicCL:
		return "p | ~p"
	case api.LogicLC:
		return "(p -> q) | (q -> p)"
	case api.LogicKC:
		return "~p | ~~p"
	case api.LogicKP:
		return "(~p -> q | r) -> (~p -> q) | (~p -> r)"
	case api.LogicSL:
		return "((~~p -> p) -> p | ~p) -> ~p | ~~p"
	case api.LogicSM:
		return "(~q -> p) -> (((p -> q) -> p) -> p)"
	}
	s := "p1 | ~p1"
	for i := 2; i <= l.n; i++ {
		name := "p" + strconv.Itoa(i)
		s = name + " | (" + name + " -> (" + s + "))"
	}
	return s
}
