package interp

import (
	"math/rand/v2"
	"slices"
	"testing"

	"dictum/api"
	"dictum/formula"
	"dictum/measure"
	"dictum/search"
	"dictum/syntax"
)

// someForm is a formula by chance with so many leaves.
func someForm(r *rand.Rand, x *formula.Table, leaves int, names []string) int {
	n := api.Node{Kind: api.KAtom, Name: names[r.IntN(len(names))]}
	switch {
	case leaves > 1:
		k := 1 + r.IntN(leaves-1)
		n = api.Node{Kind: api.KAnd + api.Kind(r.IntN(3)), L: someForm(r, x, k, names), R: someForm(r, x, leaves-k, names)}
	case r.IntN(8) == 0:
		n = api.Node{Kind: api.KBot}
	}
	id, _ := x.Put(n)
	if r.IntN(6) == 0 {
		id, _ = x.Not(id)
	}
	return id
}

// isBetween asks that a way's formula is an interpolant.
func isBetween(t *testing.T, m *maker, id int, from *formula.Table, a, b int) {
	t.Helper()
	l, r := m.take(from, a), m.take(from, b)
	if !m.proves(api.MaxVisits, id, l) || !m.proves(api.MaxVisits, r, id) {
		t.Fatalf("row %d is not between rows %d and %d of %v", id, l, r, m.t.Rows())
	}
	some, _ := measure.Atoms(m.t, id)
	for _, name := range some {
		far, _ := measure.Atoms(m.t, l)
		near, _ := measure.Atoms(m.t, r)
		if !slices.Contains(far, name) || !slices.Contains(near, name) {
			t.Fatalf("row %d between rows %d and %d of %v has %s", id, l, r, m.t.Rows(), name)
		}
	}
}

// TestWays: each of the ways to a formula between two leads to one by itself, so that none hides what is wrong with another one.
func TestWays(t *testing.T) {
	t.Parallel()
	chance := rand.New(rand.NewPCG(25, 100))
	many := 0
	for many < 1000 {
		x := formula.New()
		a := someForm(chance, x, 2+chance.IntN(9), []string{"p", "p'", "q", "r", "s"})
		for range chance.IntN(2) * chance.IntN(130) { // rows that nobody asks of, so that the others' numbers are any
			x.Not(x.Len() - 1)
		}
		b := someForm(chance, x, 2+chance.IntN(9), []string{"q", "r", "s", "u", "v"})
		f, e := search.Run(x, api.Seq{Left: set(a), Goal: b}, 60)
		if e != api.OK || !f.Proved {
			continue
		}
		many++
		for _, way := range ways(x, f.Steps, a, b) {
			m := newMaker()
			id := way(m)
			if m.full {
				t.Fatal(x.Rows(), a, b)
			}
			isBetween(t, m, id, x, a, b)
		}
	}
}

// TestMakerFull: what was refused once makes nothing more, not even what is a row already.
func TestMakerFull(t *testing.T) {
	m := newMaker()
	for i := range api.MaxForms {
		m.imp(max(0, i-1), m.put(api.Node{Kind: api.KBot}))
	}
	if m.full || m.t.Len() != api.MaxForms {
		t.Fatal(m.full, m.t.Len())
	}
	if m.atom("p"); !m.full {
		t.Error("there was room")
	}
	if id := m.imp(0, 0); id != 0 || !m.full {
		t.Error(id, m.full)
	}
	if id := m.filled(1, "p", 0); id != 0 || !m.full {
		t.Error(id, m.full)
	}
	if m.proves(api.MaxVisits, 1, 1) {
		t.Error("what means nothing proves something")
	}
}

// TestJoined: what joins two formulas makes none that is longer than one of them that says the same.
func TestJoined(t *testing.T) {
	for _, c := range [][5]string{ // two formulas, and what both, either and then make of them
		{"p", "q", "p & q", "p | q", "p -> q"},
		{"p", "p", "p", "p", "true"},
		{"p & q", "p", "p & q", "p", "true"},
		{"p", "p & q", "p & q", "p", "p -> p & q"},
		{"true", "p", "p", "true", "p"},
		{"p", "true", "p", "true", "true"},
		{"false", "p", "false", "p", "true"},
		{"p", "false", "false", "p", "~p"},
		{"~~p", "p", "p", "~~p", "~~p -> p"},
		{"~p | p", "~~p -> p", "~p | p", "~~p -> p", "true"},
	} {
		m := newMaker()
		l, _ := syntax.Parse(m.t, c[0])
		r, _ := syntax.Parse(m.t, c[1])
		for i, id := range []int{m.both(l, r), m.either(l, r), m.then(l, r)} {
			if text, _ := syntax.Print(m.t, id); text != c[2+i] {
				t.Errorf("%s, %s: %s, not %s", c[0], c[1], text, c[2+i])
			}
		}
	}
}

// TestShorter: a formula is made shorter by its parts, by false and by true, as long as it is right, and the rows that were only tried do not stay.
func TestShorter(t *testing.T) {
	for _, c := range [][2]string{
		{"p", "p"},
		{"p -> q", "p -> q"},
		{"p & p", "p"},
		{"p & (p -> q)", "p & q"},
		{"(p & q) & (q & p)", "p & q"},
		{"p & ~p", "false"},
		{"p -> q -> p", "true"},
		{"(p | q) & (p | r)", "(p | q) & (p | r)"},
		{"p -> (p -> q)", "p -> q"},
		{"~(p & q) & p", "~q & p"},
		{"(p -> false -> q) -> r", "r"},
		{"(p | ~p) & q | q", "q"},
	} {
		m := newMaker()
		id, _ := syntax.Parse(m.t, c[0])
		same := func(x int) bool { return m.proves(easy, x, id) && m.proves(easy, id, x) }
		if text, _ := syntax.Print(m.t, m.shorter(id, same)); text != c[1] {
			t.Errorf("%s: %s, not %s", c[0], text, c[1])
		}
		rows := m.t.Len()
		if x := m.shorter(id, func(int) bool { return false }); x != id || m.t.Len() != rows || m.full {
			t.Errorf("%s: %d, %d rows", c[0], x, m.t.Len())
		}
	}
}

// TestShorterEnds: no more than so many formulas are looked at.
func TestShorterEnds(t *testing.T) {
	m := newMaker()
	id := m.atom("p")
	for range 400 {
		id = m.and(m.atom("q"), m.imp(id, m.atom("r")))
	}
	looked := 0
	if x := m.shorter(id, func(int) bool { looked++; return false }); x != id || looked == 0 || looked > tries {
		t.Error(x, looked)
	}
	looked = 0
	size, _ := measure.Size(m.t, id)
	slowly := func(x int) bool { // a little shorter each time
		looked++
		n, _ := measure.Size(m.t, x)
		if n < size-4 {
			return false
		}
		size = n
		return true
	}
	if x := m.shorter(id, slowly); x == id || looked > tries {
		t.Error(x, looked)
	}
}

// TestShorterFull: where there is no room, nothing is made shorter by what is no row.
func TestShorterFull(t *testing.T) {
	for free := range 4 {
		m := newMaker()
		id, _ := syntax.Parse(m.t, "p & (q & p)")
		for i := 0; m.t.Len() < api.MaxForms-free; i++ {
			m.put(api.Node{Kind: api.KImp, L: i, R: m.t.Len() - 1})
		}
		rows := m.t.Len()
		same := func(x int) bool { return m.proves(easy, x, id) && m.proves(easy, id, x) }
		if x := m.shorter(id, same); !same(x) || m.full || m.t.Len() < rows {
			t.Error(free, x, m.full)
		}
	}
}
