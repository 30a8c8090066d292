package measure_test

import (
	"math"
	"math/rand/v2"
	"slices"
	"strconv"
	"testing"

	"dictum/api"
	"dictum/formula"
	"dictum/measure"
)

func atom(name string) api.Node { return api.Node{Kind: api.KAtom, Name: name} }

func bot() api.Node { return api.Node{Kind: api.KBot} }

func join(k api.Kind, l, r int) api.Node { return api.Node{Kind: k, L: l, R: r} }

// chapter has the rows of the chapter's examples: p, q, p & q, false, (p & q) -> false, 4 -> p.
func chapter() []api.Node {
	return []api.Node{atom("p"), atom("q"), join(api.KAnd, 0, 1), bot(), join(api.KImp, 2, 3), join(api.KImp, 4, 0)}
}

// made is the table of rows that are one.
func made(t *testing.T, rows []api.Node) *formula.Table {
	t.Helper()
	f, e := formula.From(rows)
	if f == nil || e != api.OK {
		t.Fatalf("From(%v): error %d", rows, e)
	}
	return f
}

// doubled are an atom p and, behind it, rows of which each joins the one ahead of it with itself.
func doubled(kind api.Kind, times int) []api.Node {
	rows := []api.Node{atom("p")}
	for i := range times {
		rows = append(rows, join(kind, i, i))
	}
	return rows
}

// full has as many rows as a table may have, each with the one ahead of it on its left, and false on its right.
func full(kind api.Kind) []api.Node {
	rows := []api.Node{bot(), atom("p")}
	for i := 1; len(rows) < api.MaxForms; i++ {
		rows = append(rows, join(kind, i, 0))
	}
	return rows
}

// someRows are rows of a table by chance; each is made of some of the last near rows ahead of it, so that counts grow the faster, the less that is.
func someRows(chance *rand.Rand, many, near int) []api.Node {
	f := formula.New()
	f.Atom("p")
	for f.Len() < many {
		part := func() int { return f.Len() - 1 - chance.IntN(min(near, f.Len())) }
		switch chance.IntN(10) {
		case 0, 1:
			f.Atom(string(rune('a'+chance.IntN(3))) + strconv.Itoa(chance.IntN(12)))
		case 2:
			f.Bot()
		default:
			f.Put(join(api.KAnd+api.Kind(chance.IntN(3)), part(), part()))
		}
	}
	return f.Rows()
}

// count is one of the calls that answer one number of one formula.
type count struct {
	name string
	of   func(*formula.Table, int) (int, api.Errno)
}

func counts() []count {
	return []count{{"Size", measure.Size}, {"Depth", measure.Depth}, {"Weight", measure.Weight}, {"Grade", measure.Grade}}
}

// is holds what one of the counts answers against what it should be.
func is(t *testing.T, c count, f *formula.Table, id, want int) {
	t.Helper()
	if n, e := c.of(f, id); n != want || e != api.OK {
		t.Errorf("%s(%d): %d, error %d, not %d", c.name, id, n, e, want)
	}
}

// occurs holds what Occurs and Within answer against what Occurs should.
func occurs(t *testing.T, f *formula.Table, part, id, pos, neg int) {
	t.Helper()
	if p, n, e := measure.Occurs(f, part, id); p != pos || n != neg || e != api.OK {
		t.Errorf("Occurs(%d, %d): %d, %d, error %d, not %d, %d", part, id, p, n, e, pos, neg)
	}
	if in := measure.Within(f, part, id); in != (pos+neg > 0) {
		t.Errorf("Within(%d, %d): %v", part, id, in)
	}
}

// signs holds what Signs answers against what it should.
func signs(t *testing.T, f *formula.Table, id int, pos, neg []string) {
	t.Helper()
	if p, n, e := measure.Signs(f, id); !slices.Equal(p, pos) || !slices.Equal(n, neg) || e != api.OK {
		t.Errorf("Signs(%d): %v, %v, error %d, not %v, %v", id, p, n, e, pos, neg)
	}
}

// atoms holds what Atoms answers against what it should.
func atoms(t *testing.T, f *formula.Table, id int, want ...string) {
	t.Helper()
	if l, e := measure.Atoms(f, id); !slices.Equal(l, want) || e != api.OK {
		t.Errorf("Atoms(%d): %v, error %d, not %v", id, l, e, want)
	}
}

// noForms are numbers that no formula of a table with so many rows has.
func noForms(many int) []int {
	return []int{-1, -2, -many - 1, math.MinInt, math.MinInt + 1, many, many + 1, 2*many + 7, api.MaxForms, api.MaxForms + 1, math.MaxInt - 1, math.MaxInt}
}
