package hilbert_test

import (
	"math/rand/v2"
	"slices"
	"testing"

	"dictum/api"
	"dictum/formula"
	"dictum/hilbert"
	"dictum/reduce"
	"dictum/search"
	"dictum/sequent"
	"dictum/translate"
)

// without are the hypotheses but h.
func without(hyps []int, h int) []int {
	return slices.DeleteFunc(slices.Clone(hyps), func(id int) bool { return id == h })
}

// TestFollowsDeduction: P16.6, what Deduce answers is right without h, and ends in h -> X; so on, until no hypothesis is left.
func TestFollowsDeduction(t *testing.T) {
	chance := newChance(8)
	closed := 0
	for range 2500 {
		f := made(t, someRows(chance, 3+chance.IntN(8), 3)...)
		hyps, lines := someLines(t, chance, f, 1+chance.IntN(8))
		told := lines[len(lines)-1].Form
		for len(hyps) > 0 {
			h := hyps[chance.IntN(len(hyps))]
			l, e := hilbert.Deduce(f, hyps, lines, h)
			if e != api.OK {
				if e != api.ErrForms && e != api.ErrBig {
					t.Fatal(e)
				}
				break
			}
			whole, ok := f.Find(join(api.KImp, h, told))
			if !ok {
				t.Fatalf("%d -> %d is no row", h, told)
			}
			hyps, lines, told = without(hyps, h), l, whole
			rightTells(t, f, hyps, lines, told)
			if len(hyps) == 0 {
				closed++
			}
		}
	}
	if closed < 1000 {
		t.Errorf("%d times", closed)
	}
}

// TestFollowsTerms: P16.6, Term of right lines is checked by layer 13 at what they tell; Compile of it is right again, where it has room.
func TestFollowsTerms(t *testing.T) {
	chance := newChance(9)
	again := 0
	for range 2500 {
		f := made(t, someRows(chance, 3+chance.IntN(8), 3)...)
		hyps, lines := someLines(t, chance, f, 1+chance.IntN(14))
		x := gives(t, f, hyps, lines)
		checked(t, f, hyps, lines, x)
		if len(lines) > 4 {
			continue
		}
		var names []api.Hyp
		for _, id := range hyps {
			names = append(names, named(translate.Name(id), id))
		}
		told := lines[len(lines)-1].Form
		if l, e := compiles(t, f, names, x, told); e == api.OK {
			rightTells(t, f, hyps, l, told)
			again++
		}
	}
	if again < 300 {
		t.Errorf("%d times", again)
	}
}

// TestFollowsCompiled: P16.6, Term of what Compile answers is checked at the same formula.
func TestFollowsCompiled(t *testing.T) {
	chance := newChance(10)
	many := 0
	for range 3000 {
		c := someProof(chance, 6)
		f := made(t, c.rows...)
		lines, e := hilbert.Compile(f, c.hyps, c.x, c.form)
		if e != api.OK || len(lines) > 1000 {
			continue
		}
		x, e := hilbert.Term(f, forms(c.hyps), lines)
		if e != api.OK {
			t.Fatal(e)
		}
		checked(t, f, forms(c.hyps), lines, x)
		many++
	}
	if many < 2000 {
		t.Errorf("%d times", many)
	}
}

// frame is a model by chance: above tells of each world which ones are, itself, too; holds of each world which atoms do.
type frame struct {
	above [][]bool
	holds []map[string]bool
}

// someFrame has so many worlds: the order is that of numbers, but for pairs that chance leaves out, and what follows.
func someFrame(chance *rand.Rand, worlds int) frame {
	m := frame{}
	for w := range worlds {
		row := make([]bool, worlds)
		for u := range worlds {
			row[u] = u == w || u > w && chance.IntN(2) == 0
		}
		m.above = append(m.above, row)
		m.holds = append(m.holds, map[string]bool{})
	}
	for k := range worlds {
		for w := range worlds {
			for u := range worlds {
				m.above[w][u] = m.above[w][u] || m.above[w][k] && m.above[k][u]
			}
		}
	}
	for w := range worlds {
		for _, name := range []string{"a0", "a1", "a2"} {
			if chance.IntN(3) > 0 {
				continue
			}
			for u := range worlds {
				if m.above[w][u] {
					m.holds[u][name] = true
				}
			}
		}
	}
	return m
}

// forced tells of each row and each world whether the world forces the row.
func (m frame) forced(rows []api.Node) [][]bool {
	var out [][]bool
	for _, n := range rows {
		row := make([]bool, len(m.above))
		for w := range row {
			switch n.Kind {
			case api.KAtom:
				row[w] = m.holds[w][n.Name]
			case api.KAnd:
				row[w] = out[n.L][w] && out[n.R][w]
			case api.KOr:
				row[w] = out[n.L][w] || out[n.R][w]
			case api.KImp:
				row[w] = true
				for u := range row {
					row[w] = row[w] && (!m.above[w][u] || !out[n.L][u] || out[n.R][u])
				}
			}
		}
		out = append(out, row)
	}
	return out
}

// sound asks that each world of a model which forces all hypotheses forces what a line tells, and answers in how many worlds that was.
func sound(t *testing.T, m frame, rows []api.Node, hyps []int, lines []api.Line) int {
	t.Helper()
	forced := m.forced(rows)
	many := 0
	for w := range m.above {
		if slices.ContainsFunc(hyps, func(id int) bool { return !forced[id][w] }) {
			continue
		}
		many++
		for _, l := range lines {
			if !forced[l.Form][w] {
				t.Fatalf("%v, %s: world %d of %v does not force %d", hyps, showLines(lines), w, m, l.Form)
			}
		}
	}
	return many
}

// TestFollowsSound: P16.6, right lines tell what is true in each row of a truth table (a model of one world) and in each world of a model that makes all hypotheses true.
func TestFollowsSound(t *testing.T) {
	chance := newChance(11)
	many := 0
	for range 1500 {
		f := made(t, someRows(chance, 3+chance.IntN(8), 3)...)
		hyps, lines := someLines(t, chance, f, 1+chance.IntN(14))
		h := chance.IntN(f.Len())
		l, e := hilbert.Deduce(f, hyps, lines, h)
		if e != api.OK {
			t.Fatal(e)
		}
		for i := range 12 {
			m := someFrame(chance, 1+i%5)
			many += sound(t, m, f.Rows(), hyps, lines)
			sound(t, m, f.Rows(), without(hyps, h), l)
		}
	}
	if many < 10000 {
		t.Errorf("%d worlds", many)
	}
}

// TestFollowsSoundCompiled: P16.6, the same of what Compile answers.
func TestFollowsSoundCompiled(t *testing.T) {
	chance := newChance(12)
	many := 0
	for range 1500 {
		c := someProof(chance, 5)
		f := made(t, c.rows...)
		lines, e := hilbert.Compile(f, c.hyps, c.x, c.form)
		if e != api.OK {
			continue
		}
		for i := range 8 {
			many += sound(t, someFrame(chance, 1+i%5), f.Rows(), forms(c.hyps), lines)
		}
	}
	if many < 3000 {
		t.Errorf("%d worlds", many)
	}
}

// TestFollowsKnown: P16.6 and W6, what the search proves has a right proof in lines, by its term without lets.
func TestFollowsKnown(t *testing.T) {
	for _, text := range []string{
		"p -> p",
		"p -> (q -> p)",
		"(p -> (q -> r)) -> ((p -> q) -> (p -> r))",
		"p & q -> q & p",
		"p | q -> q | p",
		"~~~p -> ~p",
		"~(p | q) -> ~p & ~q",
		"~p & ~q -> ~(p | q)",
		"p -> ~~p",
		"false -> p",
		"true",
		"(p -> q) -> (~q -> ~p)",
		"~~(p | ~p)",
	} {
		f := formula.New()
		s, _ := sequent.Parse(f, text)
		found, e := search.Run(f, s, api.MaxVisits)
		if e != api.OK || !found.Proved {
			t.Fatal(text, found.Proved, e)
		}
		x, e := translate.Term(f, found.Steps, len(found.Steps)-1)
		if e != api.OK {
			t.Fatal(text, e)
		}
		x, _, _, e = reduce.Run(f, x, api.MaxFuel)
		if e != api.OK {
			t.Fatal(text, e)
		}
		lines, e := compiles(t, f, nil, x, s.Goal)
		if e != api.OK {
			t.Errorf("%s: error %d", text, e)
			continue
		}
		rightTells(t, f, nil, lines, s.Goal)
	}
}

// TestNothingKept: R4, what other tables were asked meanwhile turns nothing, and the same call answers the same.
func TestNothingKept(t *testing.T) {
	chance := newChance(13)
	for range 300 {
		c, d := someProof(chance, 5), someProof(chance, 5)
		f, g := made(t, c.rows...), made(t, d.rows...)
		one, e := hilbert.Compile(f, c.hyps, c.x, c.form)
		hilbert.Compile(g, d.hyps, d.x, d.form)
		hilbert.Compile(g, c.hyps, c.x, c.form)
		hilbert.Deduce(g, forms(c.hyps), one, 0)
		again := made(t, c.rows...)
		two, same := hilbert.Compile(again, c.hyps, c.x, c.form)
		if e != same || !slices.Equal(one, two) || !slices.Equal(f.Rows(), again.Rows()) {
			t.Fatalf("%s, error %d, and then %s, error %d", showLines(one), e, showLines(two), same)
		}
		three, same := hilbert.Compile(f, c.hyps, c.x, c.form) // all rows are there now
		if e == api.OK && (same != api.OK || !slices.Equal(one, three) || !slices.Equal(f.Rows(), again.Rows())) {
			t.Fatalf("%s, error %d, and then %s, error %d", showLines(one), e, showLines(three), same)
		}
	}
}
