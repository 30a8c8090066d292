package interp_test

import (
	"slices"
	"testing"

	"dictum/api"
	"dictum/decide"
	"dictum/formula"
	"dictum/interp"
	"dictum/subst"
)

// asked is Exists or Forall of a formula and an atom, which answers.
func asked(t *testing.T, x *formula.Table, id int, name string, all bool) int {
	t.Helper()
	k, e := over(all)(x, id, name)
	if e != api.OK {
		t.Fatalf("%s, %s: error %d", show(x, id), name, e)
	}
	return k
}

// equal asks that two formulas prove one another.
func equal(t *testing.T, x *formula.Table, a, b int, what string) {
	t.Helper()
	if is, e := decide.Equal(x, a, b); !is || e != api.OK {
		t.Fatalf("%s: %s, %s, error %d", what, show(x, a), show(x, b), e)
	}
}

// allOver is Exists or Forall of a formula and all its atoms that another one does not have.
func allOver(t *testing.T, x *formula.Table, id, other int, all bool) int {
	t.Helper()
	for _, name := range names(x, id) {
		if !slices.Contains(names(x, other), name) {
			id = asked(t, x, id, name, all)
		}
	}
	return id
}

// TestFollowsCraig: P25.4, two formulas have an interpolant just if the first one proves the second one; it stands above what is left of the first one, and below what is left of the second one.
func TestFollowsCraig(t *testing.T) {
	t.Parallel()
	chance := newChance(11)
	seen := map[bool]int{}
	for range 1500 {
		x := formula.New()
		a := put(t, x, someTree(chance, 2+chance.IntN(5), []string{"p", "q", "r"}))
		b := put(t, x, someTree(chance, 2+chance.IntN(5), []string{"q", "r", "s"}))
		if chance.IntN(4) == 0 {
			b, _ = x.Imp(put(t, x, someTree(chance, 1+chance.IntN(3), []string{"q", "s"})), allOver(t, x, a, b, false))
		}
		holds := proves(x, b, a)
		id, e := interp.Craig(x, a, b)
		seen[holds]++
		if holds != (e == api.OK) {
			t.Fatal(show(x, a), show(x, b), holds, e)
		}
		if !holds {
			continue
		}
		low, high := allOver(t, x, a, b, false), allOver(t, x, b, a, true)
		if !proves(x, id, low) || !proves(x, high, id) {
			t.Fatal(show(x, a), show(x, b), show(x, id), show(x, low), show(x, high))
		}
	}
	if seen[true] < 150 || seen[false] < 500 {
		t.Error(seen)
	}
}

// TestFollowsPitts: P25.4, a formula without the atom follows from what Exists answers just if it follows from the formula, and proves what Forall answers just if it proves the formula.
func TestFollowsPitts(t *testing.T) {
	t.Parallel()
	chance := newChance(12)
	seen := map[bool]int{}
	for range 400 {
		x := formula.New()
		id := put(t, x, someTree(chance, 2+chance.IntN(4), []string{"p", "p", "q", "r"}))
		e, a := asked(t, x, id, "p", false), asked(t, x, id, "p", true)
		for range 20 {
			y := put(t, x, someTree(chance, 1+chance.IntN(4), []string{"q", "r", "u"}))
			one, two := proves(x, y, id), proves(x, id, y)
			seen[one]++
			seen[two]++
			if proves(x, y, e) != one || proves(x, a, y) != two {
				t.Fatal(show(x, id), show(x, e), show(x, a), show(x, y), one, two)
			}
			if x.Len() > 800 {
				break
			}
		}
	}
	if seen[true] < 1000 || seen[false] < 1000 {
		t.Error(seen)
	}
}

// TestFollowsJoined: P25.4, what is left of formulas that are joined, as it is of quantifiers.
func TestFollowsJoined(t *testing.T) {
	t.Parallel()
	chance := newChance(13)
	for range 200 {
		x := formula.New()
		some := func(names ...string) int { return put(t, x, someTree(chance, 1+chance.IntN(4), names)) }
		a, b, free := some("p", "p", "q", "r"), some("p", "p", "q", "r"), some("q", "r", "u")
		two := func(k api.Kind, l, r int) int {
			id, e := x.Put(join(k, l, r))
			if e != api.OK {
				t.Fatal(e)
			}
			return id
		}
		exists := func(id int) int { return asked(t, x, id, "p", false) }
		forall := func(id int) int { return asked(t, x, id, "p", true) }
		equal(t, x, exists(two(api.KOr, a, b)), two(api.KOr, exists(a), exists(b)), "Exists of or")
		equal(t, x, forall(two(api.KAnd, a, b)), two(api.KAnd, forall(a), forall(b)), "Forall of and")
		equal(t, x, exists(two(api.KAnd, a, free)), two(api.KAnd, exists(a), free), "Exists beside a formula")
		equal(t, x, forall(two(api.KImp, free, a)), two(api.KImp, free, forall(a)), "Forall behind a formula")
		equal(t, x, forall(two(api.KImp, a, free)), two(api.KImp, exists(a), free), "Forall ahead of a formula")
		equal(t, x, asked(t, x, exists(a), "q", false), asked(t, x, asked(t, x, a, "q", false), "p", false), "Exists twice")
		equal(t, x, asked(t, x, forall(a), "q", true), asked(t, x, asked(t, x, a, "q", true), "p", true), "Forall twice")
		with, e := subst.Frame(x, a, "p", b)
		if e != api.OK || !proves(x, exists(a), with) || !proves(x, with, forall(a)) {
			t.Fatal(show(x, a), show(x, b), e)
		}
		other, e := subst.Frame(x, a, "p", put(t, x, leaf("w"))) // the name of the atom is nothing
		if e != api.OK {
			t.Fatal(e)
		}
		equal(t, x, exists(a), asked(t, x, other, "w", false), "Exists by another name")
	}
}

// TestFollowsBeth: P25.4, an atom that is defined is so by the formula with true in its place, by what Exists answers of it with the atom, and by what Forall answers of the atom behind it.
func TestFollowsBeth(t *testing.T) {
	chance := newChance(14)
	many := 0
	for many < 150 {
		x := formula.New()
		id := put(t, x, someTree(chance, 1+chance.IntN(5), []string{"p", "p", "q", "r"}))
		k, ok, e := interp.Beth(x, id, "p")
		if !ok || e != api.OK {
			continue
		}
		many++
		p := put(t, x, leaf("p"))
		top := put(t, x, imp(leaf("false"), leaf("false")))
		with, _ := x.And(id, p)
		behind, _ := x.Imp(id, p)
		filled, e := subst.Frame(x, id, "p", top)
		if e != api.OK {
			t.Fatal(e)
		}
		for _, other := range []int{filled, asked(t, x, with, "p", false), asked(t, x, behind, "p", true)} {
			if !proves(x, k, id, other) || !proves(x, other, id, k) {
				t.Fatal(show(x, id), show(x, k), show(x, other))
			}
		}
	}
}
