package force_test

import (
	"math"
	"math/rand/v2"
	"slices"
	"strconv"
	"strings"
	"testing"

	"dictum/api"
	"dictum/formula"
	"dictum/syntax"
	"dictum/worlds"
)

func newChance(seed uint64) *rand.Rand { return rand.New(rand.NewPCG(18, seed)) }

func join(k api.Kind, l, r int) api.Node { return api.Node{Kind: k, L: l, R: r} }

func kinds() []api.Kind { return []api.Kind{api.KAnd, api.KOr, api.KImp} }

// to is a row of Up.
func to(l ...int) []int { return l }

// up is a model in which nothing is true.
func up(rows ...[]int) api.Model { return api.Model{Up: rows, Val: make([][]string, len(rows))} }

// with is the model with these names true, a word a world, commas between them.
func with(m api.Model, val ...string) api.Model {
	m.Val = nil
	for _, names := range val {
		m.Val = append(m.Val, strings.FieldsFunc(names, func(r rune) bool { return r == ',' }))
	}
	return m
}

// chain has so many worlds, each below the next one.
func chain(many int) api.Model {
	m := up(make([][]int, many)...)
	for w := range many - 1 {
		m.Up[w] = to(w + 1)
	}
	return m
}

// apart has so many worlds, none above another one.
func apart(many int) api.Model { return up(make([][]int, many)...) }

// from is the model with a name behind the others that are true, from a world on.
func from(m api.Model, w int, name string) api.Model {
	m = clone(m)
	for ; w < len(m.Val); w++ {
		m.Val[w] = append(m.Val[w], name)
	}
	return m
}

// clone is a model that shares nothing with another one; rows that are nil stay so.
func clone(m api.Model) api.Model {
	m.Up, m.Val = slices.Clone(m.Up), slices.Clone(m.Val)
	for i, row := range m.Up {
		m.Up[i] = slices.Clone(row)
	}
	for i, row := range m.Val {
		m.Val[i] = slices.Clone(row)
	}
	return m
}

// alike tells whether two models have the same rows; nil and empty ones are.
func alike(a, b api.Model) bool {
	return slices.EqualFunc(a.Up, b.Up, slices.Equal[[]int]) && slices.EqualFunc(a.Val, b.Val, slices.Equal[[]string])
}

func empty(m api.Model) bool { return len(m.Up) == 0 && len(m.Val) == 0 }

// show is a model as a test tells it, but not too much of it.
func show(m api.Model) string {
	s := strings.ReplaceAll(worlds.Text(m), "\n", "; ")
	if len(s) > 200 {
		s = s[:200] + ".."
	}
	return strconv.Itoa(len(m.Up)) + " worlds: " + s
}

// set is the set of these numbers.
func set(l ...int) api.Bits {
	var b api.Bits
	for _, n := range l {
		b[n/64] |= 1 << (n % 64)
	}
	return b
}

// numbers are those of a set, rising.
func numbers(b api.Bits) []int {
	var l []int
	for n := range api.MaxForms {
		if b[n/64]>>(n%64)&1 == 1 {
			l = append(l, n)
		}
	}
	return l
}

// seq is the sequent of these numbers, which may be no formulas'.
func seq(goal int, left ...int) api.Seq { return api.Seq{Left: set(left...), Goal: goal} }

// run are the numbers from one to ahead of another one.
func run(a, b int) []int {
	var l []int
	for ; a < b; a++ {
		l = append(l, a)
	}
	return l
}

// made is the table of rows that are one.
func made(t *testing.T, rows ...api.Node) *formula.Table {
	t.Helper()
	x, e := formula.From(rows)
	if x == nil || e != api.OK {
		t.Fatalf("From(%v): error %d", rows, e)
	}
	return x
}

// read is the number that a formula's text has in the table, behind what its parts get.
func read(t *testing.T, x *formula.Table, text string) int {
	t.Helper()
	id, f := syntax.Parse(x, text)
	if f.Code != api.OK {
		t.Fatalf("%q: error %d at %v", text, f.Code, f.At)
	}
	return id
}

// text is a formula as a test tells it.
func text(x *formula.Table, id int) string {
	s, _ := syntax.Print(x, id)
	if len(s) > 200 {
		s = s[:200] + ".."
	}
	return s
}

// noMade are tables that no call made.
func noMade() []*formula.Table { return []*formula.Table{nil, {}, new(formula.Table)} }

// noForms are numbers that no formula of a table with so many rows has.
func noForms(many int) []int {
	return []int{-1, -2, -64, -many - 1, math.MinInt, math.MinInt + 1, many, many + 1, 2*many + 7, api.MaxForms, api.MaxForms + 1, 1 << 32, math.MaxInt - 1, math.MaxInt}
}

// noWorlds are numbers that no world of a model of so many worlds has.
func noWorlds(many int) []int {
	return []int{-1, -2, -many, many, many + 1, many + 64, api.MaxWorlds, api.MaxForms, 1 << 16, 1 << 32, math.MaxInt, math.MinInt, math.MinInt + 1}
}

// noModels are models that are not well-formed.
func noModels() []api.Model {
	return []api.Model{
		{},
		{Up: [][]int{{}}},
		{Val: [][]string{{}}},
		{Up: [][]int{{}}, Val: [][]string{{}, {}}},
		{Up: [][]int{{}, {}}, Val: [][]string{{}}},
		up(to(1)),
		up(to(-1)),
		up(to(1), to(0)),
		up(to(1), to(2), to(0)),
		with(up(to(1), nil), "p", ""),
		with(up(to(1), to(2), nil), "p", "p", "q"),
		with(up(nil), "q,p"),
		with(up(nil), "p,p"),
		with(up(nil), "false"),
		with(up(nil), "1"),
		apart(api.MaxWorlds + 1),
		chain(api.MaxWorlds + 1),
	}
}

// untouched asks that a call leaves a table and a model as they were.
func untouched(t *testing.T, x *formula.Table, m api.Model, call func()) {
	t.Helper()
	rows, before := x.Rows(), clone(m)
	call()
	if !alike(before, m) {
		t.Fatalf("the model became %s, and was %s", show(m), show(before))
	}
	if !slices.Equal(rows, x.Rows()) {
		t.Fatalf("the table became %v, and was %v", x.Rows(), rows)
	}
}

// someRows are rows of a table by chance, with up to so many atoms, each joined of some of the last near rows ahead of it.
func someRows(chance *rand.Rand, many, near, atoms int) []api.Node {
	x := formula.New()
	x.Atom("p")
	for x.Len() < many {
		part := func() int { return x.Len() - 1 - chance.IntN(min(near, x.Len())) }
		switch chance.IntN(12) {
		case 0, 1:
			x.Atom(atomNames()[chance.IntN(atoms)])
		case 2:
			x.Bot()
		case 3, 4, 5: // what stands above a world matters to implications alone
			x.Imp(part(), part())
		default:
			x.Put(join(kinds()[chance.IntN(3)], part(), part()))
		}
	}
	return x.Rows()
}

// atomNames are those of someRows and someModel; the second is ahead of the first by bytes.
func atomNames() []string { return []string{"p", "P", "q", "p'"} }

// byBytes are they by bytes.
func byBytes() []string { return []string{"P", "p", "p'", "q"} }

// someModel has rows by chance that are well-formed: worlds in an order of their own, rows that fall or say things twice or tell themselves.
func someModel(r *rand.Rand, most int) api.Model {
	many := 1 + r.IntN(most)
	m, place := apart(many), r.Perm(many)
	for range r.IntN(3 * many) {
		a, b := r.IntN(many), r.IntN(many)
		if place[a] <= place[b] {
			m.Up[a] = append(m.Up[a], b)
		}
	}
	above := plainAbove(m.Up)
	for _, name := range byBytes() {
		begins := r.IntN(many)
		for w := range many {
			if above[begins][w] && r.IntN(4) > 0 { // true there and in all worlds above
				for v := range many {
					if above[w][v] && !slices.Contains(m.Val[v], name) {
						m.Val[v] = append(m.Val[v], name)
					}
				}
			}
		}
	}
	return m
}

// frames are all ways to tell so many worlds above each other, each lesser number below greater ones alone.
func frames(many int) []api.Model {
	var pairs [][2]int
	for a := range many {
		for b := a + 1; b < many; b++ {
			pairs = append(pairs, [2]int{a, b})
		}
	}
	var l []api.Model
	for which := range 1 << len(pairs) {
		m := apart(many)
		for i, pair := range pairs {
			if which>>i&1 == 1 {
				m.Up[pair[0]] = append(m.Up[pair[0]], pair[1])
			}
		}
		l = append(l, m)
	}
	return l
}

// turned is the model with its worlds the other way round.
func turned(m api.Model) api.Model {
	m = clone(m)
	last := len(m.Up) - 1
	slices.Reverse(m.Up)
	slices.Reverse(m.Val)
	for _, row := range m.Up {
		for i, w := range row {
			row[i] = last - w
		}
	}
	return m
}
