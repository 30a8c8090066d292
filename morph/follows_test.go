package morph_test

import (
	"math/rand/v2"
	"slices"
	"testing"

	"dictum/api"
	"dictum/force"
	"dictum/formula"
	"dictum/morph"
	"dictum/worlds"
)

// bounded asks that a map is a bounded morphism.
func bounded(t *testing.T, m, n api.Model, f []int) {
	t.Helper()
	if is, e := morph.Bounded(m, n, f); !is || e != api.OK {
		t.Fatalf("Bounded(%s, %s, %v): %v, error %d", show(m), show(n), f, is, e)
	}
}

// tidy asks that a model is as Tidy leaves it.
func tidy(t *testing.T, m api.Model) {
	t.Helper()
	if other, e := worlds.Tidy(m); !alike(other, m) || e != api.OK {
		t.Fatalf("%s is not tidy: error %d", show(m), e)
	}
}

// someTable has formulas of someModel's atoms by chance.
func someTable(chance *rand.Rand, many int) *formula.Table {
	x := formula.New()
	for _, name := range byBytes() {
		x.Atom(name)
	}
	x.Bot()
	for x.Len() < many {
		kind := []api.Kind{api.KAnd, api.KOr, api.KImp, api.KImp}[chance.IntN(4)]
		x.Put(api.Node{Kind: kind, L: chance.IntN(x.Len()), R: chance.IntN(x.Len())})
	}
	return x
}

// keeps asks that each world forces what the world does to which a map takes it.
func keeps(t *testing.T, x *formula.Table, m, n api.Model, f []int) {
	t.Helper()
	for a, c := range f {
		here, e := force.All(x, m, a)
		there, other := force.All(x, n, c)
		if here != there || e != api.OK || other != api.OK {
			t.Fatalf("%s in %d, %s in %d: unlike formulas are forced, errors %d, %d; rows %v", show(m), a, show(n), c, e, other, x.Rows())
		}
	}
}

// TestFollowsAbove: P19.6, the numbers that Above answers are a bounded morphism into the model, and keep what is forced.
func TestFollowsAbove(t *testing.T) {
	chance := newChance(7)
	for range 400 {
		m, x := someModel(chance, 10, 4), someTable(chance, 60)
		for w := range m.Up {
			part, l, e := morph.Above(m, w)
			if e != api.OK {
				t.Fatal(e)
			}
			tidy(t, part)
			bounded(t, part, m, l)
			keeps(t, x, part, m, l)
			if root, ok := worlds.Root(part); !ok || l[root] != w {
				t.Fatalf("%s above %d has the root %d", show(m), w, root)
			}
		}
	}
}

// TestFollowsQuotient: P19.6, Classes are a bounded morphism onto the quotient, and keep what is forced; no two worlds of the quotient are bisimilar.
func TestFollowsQuotient(t *testing.T) {
	chance := newChance(8)
	for range 700 {
		m, x := someModel(chance, 12, 4), someTable(chance, 60)
		if chance.IntN(2) == 0 {
			m = doubled(chance, someModel(chance, 8, 2))
		}
		n, class, e := morph.Quotient(m)
		if e != api.OK {
			t.Fatal(e)
		}
		tidy(t, n)
		bounded(t, m, n, class)
		keeps(t, x, m, n, class)
		all := run(0, len(n.Up))
		if onto := slices.Compact(slices.Sorted(slices.Values(class))); !slices.Equal(onto, all) {
			t.Fatalf("%s: %v goes not onto %s", show(m), class, show(n))
		}
		if finest, e := morph.Classes(n); !slices.Equal(finest, all) || e != api.OK {
			t.Fatalf("%s has bisimilar worlds: %v, error %d", show(n), finest, e)
		}
		if again, other, e := morph.Quotient(n); !alike(again, n) || !slices.Equal(other, all) || e != api.OK {
			t.Fatalf("the quotient of %s is %s, error %d", show(n), show(again), e)
		}
	}
}

// TestFollowsUnravel: P19.6, the numbers that Unravel answers are a bounded morphism into the model, and keep what is forced; the tree is one.
func TestFollowsUnravel(t *testing.T) {
	chance := newChance(9)
	many := 0
	for range 500 {
		m, x := rooted(chance, 24, 4), someTable(chance, 60)
		if chance.IntN(2) == 0 {
			m = someModel(chance, 9, 4)
		}
		for w := range m.Up {
			tree, ends, e := morph.Unravel(m, w)
			if e != api.OK {
				t.Fatal(e)
			}
			tidy(t, tree)
			bounded(t, tree, m, ends)
			keeps(t, x, tree, m, ends)
			below := make([]int, len(tree.Up))
			for _, row := range tree.Up {
				for _, v := range row {
					below[v]++
				}
			}
			if below[0] != 0 || slices.ContainsFunc(below[1:], func(n int) bool { return n != 1 }) || ends[0] != w {
				t.Fatalf("%s is no tree", show(tree))
			}
			part, _, _ := morph.Above(m, w)
			if len(tree.Up) > len(part.Up) {
				many++
			}
		}
	}
	if many < 300 {
		t.Errorf("%d trees with more worlds", many)
	}
}

// TestFollowsGlue: P19.6, above the places that Glue answers stand the models that were glued, and force what they did.
func TestFollowsGlue(t *testing.T) {
	chance := newChance(10)
	for range 500 {
		var l []api.Model
		for range 1 + chance.IntN(4) {
			l = append(l, rooted(chance, 7, 4))
		}
		whole, places, e := morph.Glue(l, nil)
		if e != api.OK {
			t.Fatal(e)
		}
		tidy(t, whole)
		x := someTable(chance, 60)
		for i, m := range l {
			var f []int
			for w := range m.Up {
				f = append(f, places[i]+w)
			}
			bounded(t, m, whole, f)
			keeps(t, x, m, whole, f)
			root, _ := worlds.Root(m)
			same, _ := worlds.Tidy(m)
			if part, at, e := morph.Above(whole, places[i]+root); !alike(part, same) || !slices.Equal(at, f) || e != api.OK {
				t.Fatalf("above %d of %s stands %s, error %d", places[i]+root, show(whole), show(part), e)
			}
		}
		if root, ok := worlds.Root(whole); root != 0 || !ok {
			t.Fatalf("%s has the root %d", show(whole), root)
		}
	}
}

// TestFollowsKeeps: P19.6, all bounded morphisms between small models keep what is forced.
func TestFollowsKeeps(t *testing.T) {
	x := someTable(newChance(11), 200)
	many := 0
	l := models(3, "p")
	for _, m := range l {
		for _, n := range l {
			everyMap(len(m.Up), len(n.Up), func(f []int) {
				if is, _ := morph.Bounded(m, n, f); is {
					keeps(t, x, m, n, f)
					many++
				}
			})
		}
	}
	if many < 500 {
		t.Errorf("%d maps", many)
	}
}

// TestFollowsBisimilar: P19.4 and P19.6, worlds are bisimilar just if they force the same of what is forced anywhere: here of all formulas of one atom that a search by size comes to, in models so small that these tell.
func TestFollowsBisimilar(t *testing.T) {
	x := formula.New()
	x.Atom("p")
	x.Bot()
	for low := 0; x.Len() < 900; low++ {
		for l := 0; l <= low && x.Len() < 900; l++ {
			for _, n := range []api.Node{{Kind: api.KImp, L: l, R: low}, {Kind: api.KImp, L: low, R: l}, {Kind: api.KOr, L: l, R: low}, {Kind: api.KAnd, L: l, R: low}} {
				x.Put(n)
			}
		}
	}
	for _, m := range models(4, "p") {
		class, e := morph.Classes(m)
		if e != api.OK {
			t.Fatal(e)
		}
		var forced []api.Bits
		for w := range m.Up {
			all, _ := force.All(x, m, w)
			forced = append(forced, all)
		}
		for a := range forced {
			for b := range forced {
				if (class[a] == class[b]) != (forced[a] == forced[b]) {
					t.Fatalf("%s: classes %v, and %d and %d", show(m), class, a, b)
				}
			}
		}
	}
}

// TestFollowsBoth: P19.6, one bounded morphism behind another one is one: a tree goes onto the model's quotient, and its own quotient is that of the part above.
func TestFollowsBoth(t *testing.T) {
	chance := newChance(12)
	for range 500 {
		m := someModel(chance, 8, 3)
		w := chance.IntN(len(m.Up))
		whole, class, _ := morph.Quotient(m)
		tree, ends, _ := morph.Unravel(m, w)
		var f []int
		for _, v := range ends {
			f = append(f, class[v])
		}
		bounded(t, tree, whole, f)
		part, _, _ := morph.Above(m, w)
		of, _, _ := morph.Quotient(part)
		small, _, _ := morph.Quotient(tree)
		if len(of.Up) != len(small.Up) {
			t.Fatalf("%s above %d has %d classes, its tree %d", show(m), w, len(of.Up), len(small.Up))
		}
	}
}
