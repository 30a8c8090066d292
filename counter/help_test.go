package counter_test

import (
	"math"
	"math/rand/v2"
	"slices"
	"strconv"
	"strings"
	"testing"

	"dictum/api"
	"dictum/deriv"
	"dictum/formula"
	"dictum/search"
	"dictum/sequent"
	"dictum/worlds"
)

func newChance(seed uint64) *rand.Rand { return rand.New(rand.NewPCG(20, seed)) }

func atom(name string) api.Node { return api.Node{Kind: api.KAtom, Name: name} }

func bot() api.Node { return api.Node{Kind: api.KBot} }

func join(k api.Kind, l, r int) api.Node { return api.Node{Kind: k, L: l, R: r} }

// seq is the sequent of these numbers, which may be no formulas'.
func seq(goal int, left ...int) api.Seq {
	s := api.Seq{Goal: goal}
	for _, id := range left {
		s.Left[id/64] |= 1 << (id % 64)
	}
	return s
}

// leftOf are the numbers of a left side, rising.
func leftOf(s api.Seq) []int {
	var l []int
	for id := range api.MaxForms {
		if s.Left[id/64]>>(id%64)&1 == 1 {
			l = append(l, id)
		}
	}
	return l
}

func proved(s api.Seq, k api.Rule, main int, kids ...int) api.Step {
	return api.Step{Seq: s, Proved: true, Rule: k, Main: main, Kids: kids}
}

func refuted(s api.Seq, k api.Rule, main int, kids ...int) api.Step {
	return api.Step{Seq: s, Rule: k, Main: main, Kids: kids}
}

func stuck(s api.Seq, kids ...int) api.Step { return refuted(s, api.RuleStuck, 0, kids...) }

// made is the table of rows that are one.
func made(t *testing.T, rows ...api.Node) *formula.Table {
	t.Helper()
	x, e := formula.From(rows)
	if x == nil || e != api.OK {
		t.Fatalf("From(%v): error %d", rows, e)
	}
	return x
}

// readSeq is the sequent of a text, whose formulas become rows.
func readSeq(t *testing.T, x *formula.Table, text string) api.Seq {
	t.Helper()
	s, f := sequent.Parse(x, text)
	if f.Code != api.OK {
		t.Fatalf("%q: error %d at %v", text, f.Code, f.At)
	}
	return s
}

// searched are the steps that layer 11 finds of a sequent's text.
func searched(t *testing.T, x *formula.Table, text string) []api.Step {
	t.Helper()
	found, e := search.Run(x, readSeq(t, x, text), api.MaxVisits)
	if e != api.OK {
		t.Fatalf("%q: error %d", text, e)
	}
	return found.Steps
}

// right asks that steps are.
func right(t *testing.T, x *formula.Table, steps []api.Step) {
	t.Helper()
	if e := deriv.Check(x, steps); e != api.OK {
		t.Fatalf("%s: error %d", showSteps(steps), e)
	}
}

// to is a row of Up, or another list of numbers.
func to(l ...int) []int { return l }

// run are the numbers from one to ahead of another one.
func run(a, b int) []int {
	var l []int
	for ; a < b; a++ {
		l = append(l, a)
	}
	return l
}

// names is a row of Val, written with commas.
func names(s string) []string {
	return strings.FieldsFunc(s, func(r rune) bool { return r == ',' })
}

// up is a model in which nothing is true.
func up(rows ...[]int) api.Model { return api.Model{Up: rows, Val: make([][]string, len(rows))} }

// with is the model with these names true, a word a world, commas between them.
func with(m api.Model, val ...string) api.Model {
	m.Val = nil
	for _, s := range val {
		m.Val = append(m.Val, names(s))
	}
	return m
}

// chain has so many worlds, each below the next one.
func chain(many int) api.Model {
	m := up(make([][]int, many)...)
	for w := range many - 1 {
		m.Up[w] = to(w + 1)
	}
	return m
}

// apart has so many worlds, none above another one.
func apart(many int) api.Model { return up(make([][]int, many)...) }

// fan has so many worlds, all others next above world 0.
func fan(many int) api.Model {
	m := apart(many)
	m.Up[0] = run(1, many)
	return m
}

// clone is a model that shares nothing with another one; rows that are nil stay so.
func clone(m api.Model) api.Model {
	m.Up, m.Val = slices.Clone(m.Up), slices.Clone(m.Val)
	for i, row := range m.Up {
		m.Up[i] = slices.Clone(row)
	}
	for i, row := range m.Val {
		m.Val[i] = slices.Clone(row)
	}
	return m
}

// copied is a list of steps that shares nothing with another one.
func copied(steps []api.Step) []api.Step {
	l := slices.Clone(steps)
	for i := range l {
		l[i].Kids = slices.Clone(l[i].Kids)
	}
	return l
}

// alike tells whether two models have the same rows; nil and empty ones are.
func alike(a, b api.Model) bool {
	return slices.EqualFunc(a.Up, b.Up, slices.Equal[[]int]) && slices.EqualFunc(a.Val, b.Val, slices.Equal[[]string])
}

// alikeSteps tells whether steps are the same; nil and empty lists of kids are.
func alikeSteps(a, b []api.Step) bool {
	return slices.EqualFunc(a, b, func(a, b api.Step) bool {
		return a.Seq == b.Seq && a.Proved == b.Proved && a.Rule == b.Rule && a.Main == b.Main && slices.Equal(a.Kids, b.Kids)
	})
}

func empty(m api.Model) bool { return len(m.Up) == 0 && len(m.Val) == 0 }

// show is a model as a test tells it, but not too much of it.
func show(m api.Model) string {
	s := strings.ReplaceAll(worlds.Text(m), "\n", "; ")
	if len(s) > 200 {
		s = s[:200] + ".."
	}
	return strconv.Itoa(len(m.Up)) + " worlds: " + s
}

func numbers(l []int) string {
	var out []string
	for _, n := range l {
		out = append(out, strconv.Itoa(n))
	}
	return strings.Join(out, " ")
}

func showSeq(s api.Seq) string { return numbers(leftOf(s)) + " |- " + strconv.Itoa(s.Goal) }

// showSteps are steps as a test tells them.
func showSteps(steps []api.Step) string {
	out := strconv.Itoa(len(steps)) + " steps: "
	for i, step := range steps {
		if i == 30 {
			return out + ".."
		}
		out += "{" + showSeq(step.Seq) + "; " + strconv.FormatBool(step.Proved) + " by rule " + strconv.Itoa(int(step.Rule)) + " of " + strconv.Itoa(step.Main) + " / " + numbers(step.Kids) + "} "
	}
	return out
}

// untouched asks that a call leaves a table, steps and a model as they were.
func untouched(t *testing.T, x *formula.Table, steps []api.Step, m api.Model, call func()) {
	t.Helper()
	rows, was, before := x.Rows(), copied(steps), clone(m)
	call()
	if !slices.Equal(rows, x.Rows()) {
		t.Fatalf("the table became %v, and was %v", x.Rows(), rows)
	}
	if !alikeSteps(steps, was) {
		t.Fatalf("the steps became %s, and were %s", showSteps(steps), showSteps(was))
	}
	if !alike(before, m) {
		t.Fatalf("the model became %s, and was %s", show(m), show(before))
	}
}

// noMade are tables that no call made.
func noMade() []*formula.Table { return []*formula.Table{nil, {}, new(formula.Table)} }

// noPlaces are numbers that none of so many things has.
func noPlaces(many int) []int {
	return []int{-1, -2, -64, -many, -many - 1, many, many + 1, many + 64, 1 << 16, 1 << 32, 1<<32 + 1, math.MaxInt, math.MinInt, math.MinInt + 1}
}

// noModels are models that are not well-formed.
func noModels() []api.Model {
	return []api.Model{
		{},
		{Up: [][]int{{}}},
		{Val: [][]string{{}}},
		{Up: [][]int{{}, {}}, Val: [][]string{{}}},
		up(to(1)),
		up(to(-1)),
		up(to(1), to(0)),
		up(nil, to(2), to(1)),
		with(up(to(1), nil), "p", ""),
		with(up(nil), "q,p"),
		with(up(nil), "p,p"),
		with(up(nil), "false"),
		apart(api.MaxWorlds + 1),
		chain(api.MaxWorlds + 1),
	}
}

// atomNames are those of someRows; their order by bytes is another one.
func atomNames() []string { return []string{"q", "p'", "P", "p", "p0"} }

// someRows are rows of a table by chance, with up to so many atoms, each joined of some of the last near rows ahead of it.
func someRows(chance *rand.Rand, many, near, atoms int) []api.Node {
	x := formula.New()
	x.Atom("p")
	for x.Len() < many {
		part := func() int { return x.Len() - 1 - chance.IntN(min(near, x.Len())) }
		switch chance.IntN(14) {
		case 0, 1:
			x.Atom(atomNames()[chance.IntN(atoms)])
		case 2:
			x.Bot()
		case 3, 4, 5, 6, 7: // implications of implications are what worlds come from
			x.Imp(part(), part())
		default:
			x.Put(join(api.KAnd+api.Kind(chance.IntN(3)), part(), part()))
		}
	}
	return x.Rows()
}

// someSeq is a sequent by chance of a table with so many rows, with up to most formulas on the left.
func someSeq(chance *rand.Rand, many, most int) api.Seq {
	var left []int
	for range chance.IntN(most + 1) {
		left = append(left, chance.IntN(many))
	}
	return seq(chance.IntN(many), left...)
}

// someModel has rows by chance that are well-formed: worlds in an order of their own, in which world 0 is mostly a root; rows that fall or say things twice or tell themselves.
func someModel(chance *rand.Rand, most int) api.Model {
	many := 1 + chance.IntN(most)
	m, place := apart(many), chance.Perm(many)
	if chance.IntN(4) > 0 { // world 0 comes ahead of all
		at := slices.Index(place, 0)
		place[0], place[at] = place[at], place[0]
	}
	for b := range many {
		for range 1 + chance.IntN(3) {
			if a := chance.IntN(many); place[a] <= place[b] {
				m.Up[a] = append(m.Up[a], b)
			}
		}
	}
	above := plainAbove(m.Up)
	for _, name := range slices.Sorted(slices.Values(atomNames())) {
		often := 1 + chance.IntN(5)
		for w := range m.Up {
			if chance.IntN(often+1) < often || w == 0 && chance.IntN(4) > 0 { // what is true in a root is true everywhere
				continue
			}
			for v := range m.Up {
				if above[w][v] && !slices.Contains(m.Val[v], name) {
					m.Val[v] = append(m.Val[v], name)
				}
			}
		}
	}
	return m
}
