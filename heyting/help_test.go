package heyting_test

import (
	"math"
	"math/rand/v2"
	"slices"
	"strconv"
	"strings"
	"testing"

	"dictum/api"
	"dictum/formula"
	"dictum/syntax"
	"dictum/worlds"
)

func newChance(seed uint64) *rand.Rand { return rand.New(rand.NewPCG(23, seed)) }

// to is a row of Up, or another list of numbers.
func to(l ...int) []int { return l }

// run are the numbers from one to ahead of another one.
func run(a, b int) []int {
	var l []int
	for ; a < b; a++ {
		l = append(l, a)
	}
	return l
}

// order is the algebra of rows written with 1 where an element is at most another one, and with another sign where it is not.
func order(rows ...string) api.Algebra {
	var a api.Algebra
	for _, row := range rows {
		var l []bool
		for i := range row {
			l = append(l, row[i] == '1')
		}
		a.Leq = append(a.Leq, l)
	}
	return a
}

// orderOf is the algebra of so many elements of which a function tells the order.
func orderOf(many int, leq func(x, y int) bool) api.Algebra {
	a := api.Algebra{}
	for x := range many {
		a.Leq = append(a.Leq, make([]bool, many))
		for y := range many {
			a.Leq[x][y] = leq(x, y)
		}
	}
	return a
}

// row is the order of so many elements in a row, written without a limit.
func row(many int) api.Algebra { return orderOf(many, func(x, y int) bool { return x <= y }) }

// subsets is the order of all sets of so many things, each as a number.
func subsets(things int) api.Algebra {
	return orderOf(1<<things, func(x, y int) bool { return x&y == x })
}

// product is the order of all pairs of two rows' elements.
func product(high, wide int) api.Algebra {
	return orderOf(high*wide, func(x, y int) bool { return x/wide <= y/wide && x%wide <= y%wide })
}

// renamed is the algebra whose element as[x] is what x was.
func renamed(a api.Algebra, as []int) api.Algebra {
	b := clone(a)
	for x, row := range a.Leq {
		for y, is := range row {
			b.Leq[as[x]][as[y]] = is
		}
	}
	return b
}

// clone is an algebra that shares nothing with another one; rows that are nil stay so.
func clone(a api.Algebra) api.Algebra {
	a.Leq = slices.Clone(a.Leq)
	for x, row := range a.Leq {
		a.Leq[x] = slices.Clone(row)
	}
	return a
}

// alike tells whether two algebras have the same rows; nil and empty ones are.
func alike(a, b api.Algebra) bool { return slices.EqualFunc(a.Leq, b.Leq, slices.Equal[[]bool]) }

// show is an algebra as a test tells it, but not too much of it.
func show(a api.Algebra) string {
	s := strconv.Itoa(len(a.Leq)) + " elements:"
	for x, row := range a.Leq {
		if x == 12 {
			return s + " .."
		}
		s += " "
		for y, is := range row {
			if y == 70 {
				s += ".."
				break
			}
			s += strconv.Itoa(map[bool]int{true: 1}[is])
		}
	}
	return s
}

// unturned asks that a call leaves an algebra as it was.
func unturned(t *testing.T, a api.Algebra, call func()) {
	t.Helper()
	before := clone(a)
	call()
	if !alike(before, a) {
		t.Fatalf("the algebra became %s, and was %s", show(a), show(before))
	}
}

// notOne are orders that are no algebras, each for one reason, or nearly so.
func notOne() map[string]api.Algebra {
	short, long, missing := row(3), row(3), row(4)
	short.Leq[1] = short.Leq[1][:2]
	long.Leq[2] = append(long.Leq[2], true)
	missing.Leq = missing.Leq[:3]
	empty, last := row(2), row(64)
	empty.Leq[1] = nil
	last.Leq[63] = last.Leq[63][:63]
	return map[string]api.Algebra{
		"no elements":                     {},
		"no rows, but a list":             {Leq: [][]bool{}},
		"one row without an entry":        {Leq: [][]bool{{}}},
		"one row that is nil":             {Leq: [][]bool{nil}},
		"one row of two":                  {Leq: [][]bool{{true, true}}},
		"a row too short":                 short,
		"a row too long":                  long,
		"a row too few":                   missing,
		"a row without entries":           empty,
		"the last of 64 rows too short":   last,
		"65 in a row":                     row(65),
		"128 sets":                        subsets(7),
		"1000 in a row":                   row(1000),
		"one that is not at most itself":  order("0"),
		"the least not at most itself":    order("01", "01"),
		"the greatest not at most itself": order("11", "00"),
		"two at most each other":          order("11", "11"),
		"three at most each other":        order("111", "111", "111"),
		"two of four at most each other":  order("1111", "0111", "0111", "0001"),
		"round":                           order("110", "011", "101"),
		"a step that is missing":          order("110", "011", "001"),
		"a long step that is missing":     order("1110", "0111", "0011", "0001"),
		"two apart":                       order("10", "01"),
		"a V":                             order("111", "010", "001"),
		"a V upside down":                 order("101", "011", "001"),
		"one apart":                       order("110", "010", "001"),
		"two least and two greatest":      order("1011", "0111", "0010", "0001"),
		"two between two":                 order("111111", "010111", "001111", "000101", "000011", "000001"),
		"three beside each other":         threeBeside(),
		"two beside one":                  twoBesideOne(),
		"three beside each other, above":  stacked(subsets(3), threeBeside()),
		"two beside one, below":           stacked(twoBesideOne(), product(3, 2)),
		"three beside each other of 64":   stacked(row(59), threeBeside()),
		"two beside one of 64":            stacked(twoBesideOne(), row(59)),
	}
}

// threeBeside are the least, the greatest and three between: meetings and joinings are there, but x meets y or z nowhere but in the least one.
func threeBeside() api.Algebra { return order("11111", "01001", "00101", "00011", "00001") }

// twoBesideOne are the least, the greatest, two between in a row and one beside these.
func twoBesideOne() api.Algebra { return order("11111", "01101", "00101", "00011", "00001") }

// stacked is one order with another one above all of it.
func stacked(a, b api.Algebra) api.Algebra {
	low := len(a.Leq)
	return orderOf(low+len(b.Leq), func(x, y int) bool {
		if x < low && y < low {
			return a.Leq[x][y]
		}
		return x < low || y >= low && b.Leq[x-low][y-low]
	})
}

// known are algebras, by what they are; each also with its elements in another order.
func known() map[string]api.Algebra {
	chance := newChance(1)
	all := map[string]api.Algebra{}
	for _, one := range []struct {
		name string
		a    api.Algebra
	}{
		{"one", row(1)},
		{"two", row(2)},
		{"three", row(3)},
		{"nine", row(9)},
		{"four sets", subsets(2)},
		{"eight sets", subsets(3)},
		{"sixteen sets", subsets(4)},
		{"two by three", product(2, 3)},
		{"three by four", product(3, 4)},
		{"four sets above four", stacked(subsets(2), subsets(2))},
		{"sets above one", stacked(row(1), subsets(3))},
		{"sets below one", stacked(subsets(3), row(1))},
		{"sets between rows", stacked(stacked(row(2), subsets(2)), row(3))},
	} {
		all[one.name] = one.a
		all[one.name+", in another order"] = renamed(one.a, chance.Perm(len(one.a.Leq)))
		all[one.name+", the other way round"] = renamed(one.a, backwards(len(one.a.Leq)))
	}
	return all
}

// backwards are the numbers from so many down to 0.
func backwards(many int) []int {
	l := run(0, many)
	slices.Reverse(l)
	return l
}

// noNumbers are numbers that none of so many things has.
func noNumbers(many int) []int {
	return []int{-1, -2, -64, -many - 2, -many - 1, many, many + 1, 2*many + 1, many + 64, 65, 1 << 16, 1 << 32, 1<<32 + 1, math.MaxInt - 1, math.MaxInt, math.MinInt, math.MinInt + 1}
}

// up is a model in which nothing is true.
func up(rows ...[]int) api.Model { return api.Model{Up: rows, Val: make([][]string, len(rows))} }

// with is the model with these names true, a word a world, commas between them.
func with(m api.Model, val ...string) api.Model {
	m.Val = nil
	for _, s := range val {
		m.Val = append(m.Val, strings.FieldsFunc(s, func(r rune) bool { return r == ',' }))
	}
	return m
}

// line has so many worlds, each below the next one.
func line(many int) api.Model {
	m := apart(many)
	for w := range many - 1 {
		m.Up[w] = to(w + 1)
	}
	return m
}

// apart has so many worlds, none above another one.
func apart(many int) api.Model { return up(make([][]int, many)...) }

// beside has the worlds of one model, and behind them those of another one.
func beside(m, n api.Model) api.Model {
	m = cloneModel(m)
	first := len(m.Up)
	for w, row := range n.Up {
		var moved []int
		for _, v := range row {
			moved = append(moved, v+first)
		}
		m.Up, m.Val = append(m.Up, moved), append(m.Val, slices.Clone(n.Val[w]))
	}
	return m
}

// rooted has a world more, with the greatest number, below all others.
func rooted(m api.Model) api.Model {
	m = cloneModel(m)
	m.Up, m.Val = append(m.Up, run(0, len(m.Up))), append(m.Val, nil)
	return m
}

// turned is the model with its worlds the other way round.
func turned(m api.Model) api.Model {
	m = cloneModel(m)
	last := len(m.Up) - 1
	slices.Reverse(m.Up)
	slices.Reverse(m.Val)
	for _, row := range m.Up {
		for i, w := range row {
			row[i] = last - w
		}
	}
	return m
}

// cloneModel is a model that shares nothing with another one; rows that are nil stay so.
func cloneModel(m api.Model) api.Model {
	m.Up, m.Val = slices.Clone(m.Up), slices.Clone(m.Val)
	for w, row := range m.Up {
		m.Up[w] = slices.Clone(row)
	}
	for w, row := range m.Val {
		m.Val[w] = slices.Clone(row)
	}
	return m
}

// alikeModel tells whether two models have the same rows; nil and empty ones are.
func alikeModel(a, b api.Model) bool {
	return slices.EqualFunc(a.Up, b.Up, slices.Equal[[]int]) && slices.EqualFunc(a.Val, b.Val, slices.Equal[[]string])
}

// showModel is a model as a test tells it, but not too much of it.
func showModel(m api.Model) string {
	s := strings.ReplaceAll(worlds.Text(m), "\n", "; ")
	if len(s) > 300 {
		s = s[:300] + ".."
	}
	return strconv.Itoa(len(m.Up)) + " worlds: " + s
}

// unturnedModel asks that a call leaves a model as it was.
func unturnedModel(t *testing.T, m api.Model, call func()) {
	t.Helper()
	before := cloneModel(m)
	call()
	if !alikeModel(before, m) {
		t.Fatalf("the model became %s, and was %s", showModel(m), showModel(before))
	}
}

// noModels are models that are not well-formed; most of them would have few up-sets, some of them many.
func noModels() []api.Model {
	return []api.Model{
		{},
		{Up: [][]int{{}}},
		{Val: [][]string{{}}},
		{Up: [][]int{{}}, Val: [][]string{{}, {}}},
		{Up: make([][]int, 7), Val: make([][]string, 6)},
		{Up: make([][]int, 100), Val: make([][]string, 101)},
		up(to(1)),
		up(to(-1)),
		up(to(1), to(0)),
		up(to(1), to(2), to(0)),
		beside(up(to(1), to(0)), apart(7)),
		beside(apart(63), up(to(1), to(0))),
		with(up(to(1), nil), "p", ""),
		with(up(to(1), to(2), nil), "p", "p", "q"),
		with(up(nil), "q,p"),
		with(up(nil), "p,p"),
		with(up(nil), "false"),
		with(up(nil), "1"),
		with(apart(7), "", "", "", "", "", "", "p,p"),
		apart(api.MaxWorlds + 1),
		line(api.MaxWorlds + 1),
	}
}

// byBytes are the names of models by chance, by bytes.
func byBytes() []string { return []string{"P", "p", "p'", "p0", "q"} }

// someModel has rows by chance that are well-formed: worlds in an order of their own, rows that fall or say things twice or tell themselves, and up to so many atoms.
func someModel(r *rand.Rand, most, atoms int) api.Model {
	many := 1 + r.IntN(most)
	m, place := apart(many), r.Perm(many)
	for range r.IntN(4 * many) {
		a, b := r.IntN(many), r.IntN(many)
		if place[a] <= place[b] {
			m.Up[a] = append(m.Up[a], b)
		}
	}
	above := plainAbove(m.Up)
	for _, name := range byBytes()[:r.IntN(atoms+1)] {
		often := 1 + r.IntN(4)
		for w := range many {
			if r.IntN(often) > 0 {
				continue
			}
			for v := range many {
				if above[w][v] && !slices.Contains(m.Val[v], name) {
					m.Val[v] = append(m.Val[v], name)
				}
			}
		}
	}
	return m
}

func atom(name string) api.Node { return api.Node{Kind: api.KAtom, Name: name} }

func bot() api.Node { return api.Node{Kind: api.KBot} }

func join(k api.Kind, l, r int) api.Node { return api.Node{Kind: k, L: l, R: r} }

// made is the table of rows that are one.
func made(t *testing.T, rows ...api.Node) *formula.Table {
	t.Helper()
	x, e := formula.From(rows)
	if x == nil || e != api.OK {
		t.Fatalf("From(%v): error %d", rows, e)
	}
	return x
}

// read is the number that a formula's text has in the table.
func read(t *testing.T, x *formula.Table, text string) int {
	t.Helper()
	id, f := syntax.Parse(x, text)
	if f.Code != api.OK {
		t.Fatalf("%.300q: error %d at %v", text, f.Code, f.At)
	}
	return id
}

// untouched asks that a call leaves a table as it was.
func untouched(t *testing.T, x *formula.Table, call func()) {
	t.Helper()
	rows := x.Rows()
	call()
	if !slices.Equal(rows, x.Rows()) {
		t.Fatalf("the table became %v, and was %v", x.Rows(), rows)
	}
}

// hyps are elements by names: "p", 0, "q", 1 as words with the numbers behind them.
func hyps(text string) []api.Hyp {
	var l []api.Hyp
	words := strings.Fields(text)
	for i := 0; i+1 < len(words); i += 2 {
		n, _ := strconv.Atoi(words[i+1])
		l = append(l, api.Hyp{Name: words[i], Form: n})
	}
	return l
}

// someRows are rows of a table by chance with some of these atoms, each joined of some of the last near rows ahead of it.
func someRows(r *rand.Rand, many, near int, names []string) []api.Node {
	x := formula.New()
	x.Atom(names[r.IntN(len(names))])
	for x.Len() < many {
		part := func() int { return x.Len() - 1 - r.IntN(min(near, x.Len())) }
		switch r.IntN(12) {
		case 0, 1, 2:
			x.Atom(names[r.IntN(len(names))])
		case 3:
			x.Bot()
		default:
			x.Put(join(api.KAnd+api.Kind(r.IntN(3)), part(), part()))
		}
	}
	return x.Rows()
}

// someBy are elements by chance, of so many, for these names, in some order.
func someBy(r *rand.Rand, many int, names []string) []api.Hyp {
	var by []api.Hyp
	for _, i := range r.Perm(len(names)) {
		by = append(by, api.Hyp{Name: names[i], Form: r.IntN(many)})
	}
	return by
}
