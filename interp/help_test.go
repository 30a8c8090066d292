package interp_test

import (
	"math"
	"math/rand/v2"
	"os"
	"runtime/debug"
	"slices"
	"strconv"
	"strings"
	"testing"

	"dictum/api"
	"dictum/formula"
	"dictum/interp"
	"dictum/measure"
	"dictum/search"
	"dictum/syntax"
)

// TestMain lets rubbish lie longer: searches leave much of it, and little else stands beside.
func TestMain(m *testing.M) {
	debug.SetGCPercent(1000)
	os.Exit(m.Run())
}

func newChance(seed uint64) *rand.Rand { return rand.New(rand.NewPCG(25, seed)) }

func atom(name string) api.Node { return api.Node{Kind: api.KAtom, Name: name} }

func bot() api.Node { return api.Node{Kind: api.KBot} }

func join(k api.Kind, l, r int) api.Node { return api.Node{Kind: k, L: l, R: r} }

// made is the table of rows that are one.
func made(t *testing.T, rows ...api.Node) *formula.Table {
	t.Helper()
	x, e := formula.From(rows)
	if x == nil || e != api.OK {
		t.Fatalf("From(%v): error %d", rows, e)
	}
	return x
}

// fill puts atoms that no formula here has into a table, until it has so many rows.
func fill(x *formula.Table, many int) {
	for i := 0; x.Len() < many; i++ {
		x.Atom("fill" + strconv.Itoa(i))
	}
}

// read is the number that a formula's text has in the table.
func read(t *testing.T, x *formula.Table, text string) int {
	t.Helper()
	id, f := syntax.Parse(x, text)
	if f.Code != api.OK {
		t.Fatalf("%.300q: error %d at %v", text, f.Code, f.At)
	}
	return id
}

// show is a formula's text, but not too much of it.
func show(x *formula.Table, id int) string {
	s, _ := syntax.Print(x, id)
	if len(s) > 300 {
		s = s[:300] + ".."
	}
	return s
}

// seq is a sequent with these formulas on its left side.
func seq(goal int, left ...int) api.Seq {
	s := api.Seq{Goal: goal}
	for _, id := range left {
		s.Left[id/64] |= 1 << (id % 64)
	}
	return s
}

// proves tells whether layer 11's Run proves a goal from a left side; the table stays as it was.
func proves(x *formula.Table, goal int, left ...int) bool {
	rows := x.Len()
	f, _ := search.Run(x, seq(goal, left...), api.MaxVisits)
	x.Cut(rows)
	return f.Proved
}

// names are a formula's atoms.
func names(x *formula.Table, id int) []string {
	l, _ := measure.Atoms(x, id)
	return l
}

// size is a formula's Size.
func size(x *formula.Table, id int) int {
	n, _ := measure.Size(x, id)
	return n
}

// untouched asks that a call leaves a table as it was.
func untouched(t *testing.T, x *formula.Table, call func()) {
	t.Helper()
	rows := x.Rows()
	call()
	if !slices.Equal(rows, x.Rows()) {
		t.Fatalf("the table became %v, and was %v", x.Rows(), rows)
	}
}

// kept asks that a call leaves all rows as they were, and new ones behind them at the most.
func kept(t *testing.T, x *formula.Table, call func()) {
	t.Helper()
	rows := x.Rows()
	call()
	if x.Len() < len(rows) || !slices.Equal(rows, x.Rows()[:len(rows)]) {
		t.Fatalf("the table became %v, and was %v", x.Rows(), rows)
	}
}

// noForms are numbers that no row of a table of so many rows has.
func noForms(many int) []int {
	all := []int{math.MinInt, math.MinInt + 1, -1 << 32, -65, -64, -2, -1, many, many + 1, many + 64, 1023, 1024, 1 << 16, 1 << 32, 1<<32 + 1, 1 << 62, math.MaxInt - 1, math.MaxInt}
	return slices.DeleteFunc(all, func(n int) bool { return n >= 0 && n < many })
}

// noNames are no names of atoms.
func noNames() []string {
	return []string{"", " ", "1", "_", "'", "p ", " p", "p-", "~p", "p&q", "é", "pé", "p\x00", "\xff", "false", "true", "let", "in", "case", "abort", "of", "fun", "fst", "snd", "inl", "inr", strings.Repeat("p", 32)}
}

// tree is a formula without a table.
type tree struct {
	kind api.Kind
	name string
	l, r *tree
}

func leaf(name string) *tree {
	if name == "false" {
		return &tree{kind: api.KBot}
	}
	return &tree{kind: api.KAtom, name: name}
}

// put is the number that a tree's formula has in the table.
func put(t *testing.T, x *formula.Table, f *tree) int {
	t.Helper()
	n := api.Node{Kind: f.kind, Name: f.name}
	if f.l != nil {
		n.L, n.R = put(t, x, f.l), put(t, x, f.r)
	}
	id, e := x.Put(n)
	if e != api.OK {
		t.Fatalf("Put(%v): error %d", n, e)
	}
	return id
}

// kinds are those of what is joined.
func kinds() []api.Kind { return []api.Kind{api.KAnd, api.KOr, api.KImp} }

// trees are all formulas of a Size, with leaves of these names and false.
func trees(size int, names []string) []*tree {
	known := map[int][]*tree{}
	for _, name := range names {
		known[1] = append(known[1], leaf(name))
	}
	known[1] = append(known[1], leaf("false"))
	for s := 3; s <= size; s += 2 {
		for a := 1; a+1 < s; a += 2 {
			for _, l := range known[a] {
				for _, r := range known[s-1-a] {
					for _, k := range kinds() {
						known[s] = append(known[s], &tree{kind: k, l: l, r: r})
					}
				}
			}
		}
	}
	return known[size]
}

// inOrder tells whether the names beside p come in order for the first time: q, then r, then s, then t; then the formula is another one in none but its names.
func (f *tree) inOrder() bool {
	next := byte('q')
	var look func(f *tree) bool
	look = func(f *tree) bool {
		if f.l != nil {
			return look(f.l) && look(f.r)
		}
		if f.kind == api.KBot || f.name == "p" || f.name[0] < next {
			return true
		}
		next++
		return f.name[0] == next-1
	}
	return look(f)
}

// ofSize are all formulas of a Size of p, false, and other atoms, but for the others' names.
func ofSize(size int) []*tree {
	return slices.DeleteFunc(trees(size, []string{"p", "q", "r", "s", "t"}), func(f *tree) bool { return !f.inOrder() })
}

// someTree is a formula by chance with so many leaves.
func someTree(r *rand.Rand, leaves int, names []string) *tree {
	if leaves < 2 {
		if r.IntN(10) == 0 {
			return leaf("false")
		}
		return leaf(names[r.IntN(len(names))])
	}
	k := 1 + r.IntN(leaves-1)
	f := &tree{kind: kinds()[r.IntN(3)], l: someTree(r, k, names), r: someTree(r, leaves-k, names)}
	if r.IntN(5) == 0 {
		f = &tree{kind: api.KImp, l: f, r: leaf("false")}
	}
	return f
}

// over is Exists or Forall.
func over(all bool) func(x *formula.Table, id int, name string) (int, api.Errno) {
	if all {
		return interp.Forall
	}
	return interp.Exists
}

// either are both values of what is asked twice.
func either() []bool { return []bool{false, true} }
