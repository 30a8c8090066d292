package force_test

import (
	"math/rand/v2"
	"slices"
	"testing"

	"dictum/api"
	"dictum/force"
	"dictum/formula"
	"dictum/hilbert"
	"dictum/rule"
	"dictum/search"
	"dictum/sequent"
	"dictum/translate"
	"dictum/types"
)

// forcedAt is what All answers of a world that is one.
func forcedAt(t *testing.T, x *formula.Table, m api.Model, w int) []int {
	t.Helper()
	all, e := force.All(x, m, w)
	if e != api.OK {
		t.Fatal(e)
	}
	return numbers(all)
}

// holds is what Holds answers of a sequent that is right.
func holds(t *testing.T, x *formula.Table, m api.Model, s api.Seq) bool {
	t.Helper()
	is, e := force.Holds(x, m, s)
	if e != api.OK {
		t.Fatalf("Holds(%s, %v |- %d): error %d", show(m), numbers(s.Left), s.Goal, e)
	}
	return is
}

// TestFollowsStays: P18.4, what is forced stays forced in all worlds above.
func TestFollowsStays(t *testing.T) {
	chance := newChance(6)
	more := 0
	for range 2000 {
		x := made(t, someRows(chance, 3+chance.IntN(40), 1+chance.IntN(12), 4)...)
		m := someModel(chance, 10)
		above := plainAbove(m.Up)
		for a := range above {
			here := forcedAt(t, x, m, a)
			for b := range above {
				if !above[a][b] || a == b {
					continue
				}
				there := forcedAt(t, x, m, b)
				for _, id := range here {
					if !slices.Contains(there, id) {
						t.Fatalf("%s: %s is forced in %d, and not in %d", show(m), text(x, id), a, b)
					}
				}
				if len(there) > len(here) {
					more++
				}
			}
		}
	}
	if more < 1000 {
		t.Errorf("%d times", more)
	}
}

// truth tells whether a formula is true in the row of a truth table that some atoms are.
func truth(rows []api.Node, id int, atoms []string) bool {
	switch n := rows[id]; n.Kind {
	case api.KAtom:
		return slices.Contains(atoms, n.Name)
	case api.KAnd:
		return truth(rows, n.L, atoms) && truth(rows, n.R, atoms)
	case api.KOr:
		return truth(rows, n.L, atoms) || truth(rows, n.R, atoms)
	case api.KImp:
		return !truth(rows, n.L, atoms) || truth(rows, n.R, atoms)
	}
	return false
}

// TestFollowsTops: P18.4, where no other world is above, what is forced is what is true in the row of the world's atoms.
func TestFollowsTops(t *testing.T) {
	chance := newChance(7)
	for range 1500 {
		rows := someRows(chance, 3+chance.IntN(12), 1+chance.IntN(12), 4)
		x, m := made(t, rows...), someModel(chance, 7)
		for w, row := range plainAbove(m.Up) {
			row[w] = false
			if slices.Contains(row, true) {
				continue
			}
			for id := range rows {
				if is, e := force.At(x, m, w, id); is != truth(rows, id, m.Val[w]) || e != api.OK {
					t.Fatalf("At(%s, %d, %s): %v, error %d", show(m), w, text(x, id), is, e)
				}
			}
		}
	}
}

// someSeq is a sequent by chance, with up to most formulas on the left.
func someSeq(chance *rand.Rand, many, most int) api.Seq {
	var left []int
	for range chance.IntN(most + 1) {
		left = append(left, chance.IntN(many))
	}
	return seq(chance.IntN(many), left...)
}

// TestFollowsDeduction: P18.4, a sequent holds with A more on the left just if it holds with A -> B for its goal B.
func TestFollowsDeduction(t *testing.T) {
	chance := newChance(8)
	count := map[bool]int{}
	for range 5000 {
		rows := someRows(chance, 3+chance.IntN(20), 1+chance.IntN(12), 4)
		x, m := made(t, rows...), someModel(chance, 7)
		s, a := someSeq(chance, len(rows), 3), chance.IntN(len(rows))
		whole, e := x.Imp(a, s.Goal)
		if e != api.OK {
			t.Fatal(e)
		}
		more := seq(s.Goal, append(numbers(s.Left), a)...)
		is := holds(t, x, m, more)
		if holds(t, x, m, api.Seq{Left: s.Left, Goal: whole}) != is {
			t.Fatalf("%s, %v |- %d with %d on the left: %v; rows %v", show(m), numbers(s.Left), s.Goal, a, is, rows)
		}
		count[is]++
	}
	if count[true] < 1000 || count[false] < 500 {
		t.Error(count)
	}
}

// rulesKeep asks what P18.4 says of one rule of a sequent in one model, and tells whether the sequent holds.
func rulesKeep(t *testing.T, x *formula.Table, m api.Model, s api.Seq, k api.Rule, main int) bool {
	t.Helper()
	old := x.Len()
	premises, e := rule.Premises(x, s, k, main)
	if e != api.OK {
		t.Fatalf("Premises(%v |- %d, rule %d of %d): error %d", numbers(s.Left), s.Goal, k, main, e)
	}
	whole := holds(t, x, m, s)
	all := true
	for i, premise := range premises {
		is := holds(t, x, m, premise)
		all = all && is
		one := k == api.RuleOrR1 || k == api.RuleOrR2 || k == api.RuleImpImp && i == 0 // what holds need not hold by this one
		if whole && !is && !one {
			t.Fatalf("%s: %v |- %d holds, and not premise %d of rule %d of %d; rows %v", show(m), numbers(s.Left), s.Goal, i, k, main, x.Rows())
		}
	}
	if all && !whole {
		t.Fatalf("%s: %v |- %d does not hold, and all premises of rule %d of %d do; rows %v", show(m), numbers(s.Left), s.Goal, k, main, x.Rows())
	}
	x.Cut(old)
	return whole
}

// TestFollowsRules: P18.4, rules keep what holds.
func TestFollowsRules(t *testing.T) {
	chance := newChance(9)
	type seen struct {
		rule  api.Rule
		holds bool
	}
	count := map[seen]int{}
	for range 6000 {
		rows := someRows(chance, 3+chance.IntN(20), 1+chance.IntN(20), 3)
		x, m := made(t, rows...), someModel(chance, 6)
		s := someSeq(chance, len(rows), 5)
		for k := api.RuleBot; k <= api.RuleImpImp; k++ {
			for main := range rows {
				if ok, _ := rule.Fits(x, s, k, main); ok {
					count[seen{k, rulesKeep(t, x, m, s, k, main)}]++
				}
			}
		}
	}
	for k := api.RuleBot; k <= api.RuleImpImp; k++ {
		if count[seen{k, true}] < 100 || k > api.RuleId && count[seen{k, false}] < 20 {
			t.Errorf("rule %d: %d sequents that hold, %d others", k, count[seen{k, true}], count[seen{k, false}])
		}
	}
}

// schemes are the axioms by their kinds, as layer 16's chapter has them.
func schemes() map[api.LineKind]string {
	return map[api.LineKind]string{
		api.LineK:    "A -> (B -> A)",
		api.LineS:    "(A -> (B -> C)) -> ((A -> B) -> (A -> C))",
		api.LineFst:  "A & B -> A",
		api.LineSnd:  "A & B -> B",
		api.LinePair: "A -> (B -> A & B)",
		api.LineInl:  "A -> A | B",
		api.LineInr:  "B -> A | B",
		api.LineCase: "(A -> C) -> ((B -> C) -> (A | B -> C))",
		api.LineBot:  "false -> A",
	}
}

// axiom puts formulas in a scheme's letters; the scheme stands in a table of its own.
func axiom(t *testing.T, x *formula.Table, k api.LineKind, by map[string]int) int {
	t.Helper()
	scheme := formula.New()
	whole := read(t, scheme, schemes()[k])
	var image func(id int) int
	image = func(id int) int {
		n, _ := scheme.Node(id)
		switch n.Kind {
		case api.KAtom:
			return by[n.Name]
		case api.KBot:
			id, _ := x.Bot()
			return id
		}
		id, e := x.Put(join(n.Kind, image(n.L), image(n.R)))
		if e != api.OK {
			t.Fatal(e)
		}
		return id
	}
	return image(whole)
}

// nextLine is a line by chance that is right behind others: often what follows of two of them.
func nextLine(t *testing.T, chance *rand.Rand, x *formula.Table, hyps []int, lines []api.Line) api.Line {
	t.Helper()
	var follow []api.Line
	for a, major := range lines {
		for b, minor := range lines {
			if n, _ := x.Node(major.Form); n.Kind == api.KImp && n.L == minor.Form {
				follow = append(follow, api.Line{Kind: api.LineMP, Form: n.R, A: a, B: b})
			}
		}
	}
	if len(follow) > 0 && chance.IntN(3) > 0 {
		return follow[chance.IntN(len(follow))]
	}
	if len(hyps) > 0 && chance.IntN(2) == 0 {
		return api.Line{Kind: api.LineHyp, Form: hyps[chance.IntN(len(hyps))]}
	}
	some := func() int {
		if len(lines) > 0 && chance.IntN(2) == 0 {
			return lines[chance.IntN(len(lines))].Form
		}
		return chance.IntN(8)
	}
	k := api.LineK + api.LineKind(chance.IntN(9))
	return api.Line{Kind: k, Form: axiom(t, x, k, map[string]int{"A": some(), "B": some(), "C": some()})}
}

// linesForced asks that what right lines tell is forced in each world that forces their hypotheses, and answers how many of these there are.
func linesForced(t *testing.T, x *formula.Table, m api.Model, hyps []int, lines []api.Line) int {
	t.Helper()
	if e := hilbert.Check(x, hyps, lines); e != api.OK {
		t.Fatalf("%v are no right lines: error %d", lines, e)
	}
	many := 0
	for w := range m.Up {
		forced := forcedAt(t, x, m, w)
		if slices.ContainsFunc(hyps, func(id int) bool { return !slices.Contains(forced, id) }) {
			continue
		}
		many++
		for _, line := range lines {
			if !slices.Contains(forced, line.Form) {
				t.Fatalf("%s: world %d forces %v, and not %s", show(m), w, hyps, text(x, line.Form))
			}
		}
	}
	return many
}

// TestFollowsLines: P18.4, what right lines tell is forced where their hypotheses are.
func TestFollowsLines(t *testing.T) {
	chance := newChance(10)
	many, rules := 0, 0
	for range 600 {
		x := made(t, someRows(chance, 8+chance.IntN(6), 8, 3)...)
		var hyps []int
		for range chance.IntN(4) {
			hyps = append(hyps, chance.IntN(x.Len()))
		}
		var lines []api.Line
		for range 1 + chance.IntN(14) {
			lines = append(lines, nextLine(t, chance, x, hyps, lines))
			if lines[len(lines)-1].Kind == api.LineMP {
				rules++
			}
		}
		for range 4 {
			many += linesForced(t, x, someModel(chance, 6), hyps, lines)
		}
	}
	if many < 1000 || rules < 500 {
		t.Error(many, rules)
	}
}

// TestFollowsProved: W2, a sequent of which the checker takes a term (that of the search's steps) holds in models by chance, and its goal is valid on frames, if nothing stands on its left side.
func TestFollowsProved(t *testing.T) {
	chance := newChance(11)
	proved, framed := 0, 0
	for range 1500 {
		rows := someRows(chance, 4+chance.IntN(12), 2+chance.IntN(12), 3)
		x := made(t, rows...)
		s := someSeq(chance, len(rows), 3)
		found, e := search.Run(x, s, api.MaxVisits)
		if e != api.OK || !found.Proved {
			continue
		}
		proved++
		for range 8 {
			if m := someModel(chance, 7); !holds(t, x, m, s) {
				t.Fatalf("%s: %v |- %d does not hold; rows %v", show(m), numbers(s.Left), s.Goal, rows)
			}
		}
		if s.Left == (api.Bits{}) {
			framed++
			if is, got, e := force.Frame(x, someModel(chance, 5), s.Goal); !is || e != api.OK {
				t.Fatalf("%s is refuted by %s, error %d", text(x, s.Goal), show(got), e)
			}
		}
		last := len(found.Steps) - 1
		y, e := translate.Term(x, found.Steps, last)
		if e != api.OK || types.Check(x, translate.Hyps(s), y, s.Goal) != api.OK {
			t.Fatalf("%v |- %d has no term: error %d", numbers(s.Left), s.Goal, e)
		}
	}
	if proved < 300 || framed < 30 {
		t.Error(proved, framed)
	}
}

// TestFollowsTruth: P18.4, what a frame makes valid is true in every row of a truth table; and of one world the converse.
func TestFollowsTruth(t *testing.T) {
	chance := newChance(12)
	count := map[bool]int{}
	for range 2500 {
		rows := someRows(chance, 3+chance.IntN(16), 1+chance.IntN(12), 3)
		x, id := made(t, rows...), len(rows)-1
		atoms, always := plainAtoms(rows, id), true
		for row := range 1 << len(atoms) {
			var names []string
			for i, name := range atoms {
				if row>>i&1 == 1 {
					names = append(names, name)
				}
			}
			always = always && truth(rows, id, names)
		}
		m := someModel(chance, 5)
		is, _, e := force.Frame(x, m, id)
		if is && !always || e != api.OK {
			t.Fatalf("Frame(%s, %s): %v, error %d", show(m), text(x, id), is, e)
		}
		if is, _, e := force.Frame(x, apart(1+chance.IntN(5)), id); is != always || e != api.OK {
			t.Fatalf("Frame without order, %s: %v, error %d", text(x, id), is, e)
		}
		count[is]++
	}
	if count[true] < 200 || count[false] < 500 {
		t.Error(count)
	}
}

// TestFollowsWhole: P18.2, a sequent holds just if the formulas that say the same (layer 8) are valid.
func TestFollowsWhole(t *testing.T) {
	chance := newChance(13)
	for range 2000 {
		x := made(t, someRows(chance, 3+chance.IntN(20), 1+chance.IntN(12), 4)...)
		m, s := someModel(chance, 7), someSeq(chance, x.Len(), 4)
		is := holds(t, x, m, s)
		for _, said := range []func(*formula.Table, api.Seq) (int, api.Errno){sequent.Whole, sequent.Curry} {
			id, e := said(x, s)
			if e != api.OK {
				t.Fatal(e)
			}
			if valid, e := force.Valid(x, m, id); valid != is || e != api.OK {
				t.Fatalf("%s: %s is %v, error %d", show(m), text(x, id), valid, e)
			}
		}
	}
}
