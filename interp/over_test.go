package interp_test

import (
	"slices"
	"testing"

	"dictum/api"
	"dictum/formula"
)

// without are formulas of these atoms and of one that is met nowhere else, up to a Size.
func without(most int, names []string) []*tree {
	var l []*tree
	for s := 1; s <= most; s += 2 {
		l = append(l, trees(s, append(slices.Clone(names), "w"))...)
	}
	return l
}

// rungs are the first formulas of an atom on the ladder of Rieger and Nishimura: every formula of that atom alone is one of the ladder's, or true, up to proofs.
func rungs(name string, many int) []*tree {
	l := []*tree{leaf("false"), leaf(name), imp(leaf(name), leaf("false"))}
	for n := len(l); n < many; n++ {
		if n%2 == 1 {
			l = append(l, or(l[n-2], l[n-1]))
		} else {
			l = append(l, imp(l[n-2], l[n-3]))
		}
	}
	return l
}

// holdOver is P25.2 of a formula and p, but for what is nearest.
func holdOver(t *testing.T, x *formula.Table, id int, all bool) int {
	t.Helper()
	rows := x.Rows()
	k, e := over(all)(x, id, "p")
	if e != api.OK {
		t.Fatalf("%s: error %d", show(x, id), e)
	}
	if x.Len() < len(rows) || !slices.Equal(rows, x.Rows()[:len(rows)]) {
		t.Fatalf("%s: the rows became %v", show(x, id), x.Rows())
	}
	if slices.Contains(names(x, k), "p") {
		t.Fatalf("%s: %s", show(x, id), show(x, k))
	}
	if all && !proves(x, id, k) || !all && !proves(x, k, id) {
		t.Fatalf("%s: %s does not stand on its side (%v)", show(x, id), show(x, k), all)
	}
	return k
}

// holdNearest is P25.2 of what Exists or Forall has answered, and some other formulas.
func holdNearest(t *testing.T, x *formula.Table, id, k int, all bool, others []*tree) {
	t.Helper()
	rows := x.Len()
	for _, f := range others {
		y := put(t, x, f)
		if all && proves(x, id, y) && !proves(x, k, y) || !all && proves(x, y, id) && !proves(x, y, k) {
			t.Fatalf("%s: %s is nearer than %s (%v)", show(x, id), show(x, y), show(x, k), all)
		}
		x.Cut(rows)
	}
}

// TestOverSmall: P25.2, of all formulas up to the Size 5, and all that may be nearer up to the Size 3.
func TestOverSmall(t *testing.T) {
	t.Parallel()
	for s := 1; s <= 5; s += 2 {
		for _, f := range ofSize(s) {
			for _, all := range either() {
				x := formula.New()
				id := put(t, x, f)
				k := holdOver(t, x, id, all)
				others := slices.DeleteFunc(names(x, id), func(name string) bool { return name == "p" })
				holdNearest(t, x, id, k, all, without(3, others))
			}
		}
	}
}

// TestOverSeven: P25.2, of formulas of the Size 7 by chance, some of them in tables with other rows, and formulas up to the Size 5 by chance that may be nearer.
func TestOverSeven(t *testing.T) {
	t.Parallel()
	chance := newChance(3)
	seven := ofSize(7)
	few := without(5, []string{"q", "r"})
	for range 500 {
		x := formula.New()
		fill(x, chance.IntN(80))
		f := seven[chance.IntN(len(seven))]
		id := put(t, x, f)
		for _, all := range either() {
			k := holdOver(t, x, id, all)
			var others []*tree
			for range 25 {
				others = append(others, few[chance.IntN(len(few))])
			}
			holdNearest(t, x, id, k, all, others)
		}
	}
}

// TestOverAllSeven: P25.2, no formula of the Size 7 is without an answer on its side.
func TestOverAllSeven(t *testing.T) {
	t.Parallel()
	chance := newChance(4)
	for i, f := range ofSize(7) {
		if i%5 != chance.IntN(5) {
			continue
		}
		for _, all := range either() {
			x := formula.New()
			holdOver(t, x, put(t, x, f), all)
		}
	}
}

// TestOverNone: P25.2, a formula that does not have the atom is its own nearest one, up to proofs.
func TestOverNone(t *testing.T) {
	for _, text := range []string{"q", "false", "true", "q & (q -> r)", "~~q -> q", "q | ~q", "(q & q) & (q & q)", "p' -> p0"} {
		for _, all := range either() {
			x := formula.New()
			id := read(t, x, text)
			same(t, x, holdOver(t, x, id, all), text)
		}
	}
}

// TestOverByHand: P25.2, formulas of which the nearest one is known.
func TestOverByHand(t *testing.T) {
	for _, c := range []struct{ text, exists, forall string }{
		{"p", "true", "false"},
		{"~p", "true", "false"},
		{"p & ~p", "false", "false"},
		{"p | ~p", "true", "false"},
		{"~p | ~~p", "true", "false"},
		{"p -> p", "true", "true"},
		{"p & q", "q", "false"},
		{"p | q", "true", "q"},
		{"p -> q", "true", "q"},
		{"q -> p", "true", "~q"},
		{"p <-> q", "true", "false"},
		{"~(p & q)", "true", "~q"},
		{"~(p | q)", "~q", "false"},
		{"~~p -> q", "true", "q"},
		{"~p -> q", "true", "q"},
		{"(p -> q) -> p", "true", "false"},
		{"(p -> q) -> r", "q -> r", "r"},
		{"(p -> q) -> q", "true", "q"},
		{"((p -> q) -> p) -> p", "true", "q"},
		{"(q -> p) & (p -> r)", "q -> r", "~q & r"},
		{"(q -> p) -> r", "~q -> r", "r"},
		{"(q | p) & (r | ~p)", "q | r", "q & r"},
		{"(q -> p) | (p -> r)", "true", "~q | r"},
		{"p & (q -> r) | ~p & q", "(q -> r) | q", "false"},
		{"(p -> q) & (r -> p) & r", "q & r", "false"},
		{"(q -> r | p) & (p -> s)", "q -> r | s", "(q -> r) & s"},
		{"((q -> p) -> r) & (p -> s)", "~q -> r", "r & s"},
		{"((p -> q) -> r) & (r -> p)", "q -> r", "false"},
		{"(p -> q) & ((p -> r) -> p)", "(q -> r) -> q", "false"},
		{"((q -> p) -> q) -> p", "true", "~q"},
		{"((p -> q) -> r) -> p", "true", "((q -> r) -> q) & ~r"},
		{"(p -> q | r) -> (p -> q) | (p -> r)", "true", "(q | r -> q) | (q | r -> r)"},
		{"p | (p -> q | ~q)", "true", "q | ~q"},
		{"~~(p <-> q)", "true", "false"},
	} {
		for _, all := range either() {
			x := formula.New()
			k := holdOver(t, x, read(t, x, c.text), all)
			if all {
				same(t, x, k, c.forall)
			} else {
				same(t, x, k, c.exists)
			}
			if t.Failed() {
				t.Fatal(c, all)
			}
		}
	}
}

// TestOverLadder: P25.2, of formulas of p and q alone, and of whatever q alone may say.
func TestOverLadder(t *testing.T) {
	t.Parallel()
	chance := newChance(5)
	l := append(trees(5, []string{"p", "q"}), trees(3, []string{"p", "q"})...)
	seven := trees(7, []string{"p", "q"})
	for range 250 {
		l = append(l, seven[chance.IntN(len(seven))])
	}
	for range 80 {
		l = append(l, someTree(chance, 5+chance.IntN(3), []string{"p", "q"}))
	}
	for _, f := range l {
		for _, all := range either() {
			x := formula.New()
			id := put(t, x, f)
			holdNearest(t, x, id, holdOver(t, x, id, all), all, rungs("q", 10))
		}
	}
}
