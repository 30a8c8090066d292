package term_test

import (
	"slices"
	"strings"
	"testing"

	"dictum/api"
	"dictum/term"
)

// TestFree: P12.2, what is bound, and where.
func TestFree(t *testing.T) {
	a, b, c := v("a"), v("b"), v("c")
	frees(t, a, "a")
	frees(t, app(b, app(a, b)), "a", "b")
	frees(t, lam("a", a))
	frees(t, lam("a", b), "b")
	frees(t, app(lam("a", a), a), "a")
	frees(t, lam("a", lam("a", app(a, b))), "b")
	frees(t, lam("a", app(lam("a", a), a)))
	frees(t, lam("a", app(lam("b", app(a, b)), b)), "b")
	frees(t, let("a", a, a), "a")
	frees(t, let("a", b, a), "b")
	frees(t, let("a", a, b), "a", "b")
	frees(t, choose(a, "a", a, "a", a), "a")
	frees(t, choose(c, "a", a, "b", b), "c")
	frees(t, choose(c, "a", b, "b", a), "a", "b", "c")
	frees(t, choose(c, "a", app(a, b), "b", b), "b", "c")
	frees(t, choose(c, "a", a, "b", app(a, b)), "a", "c")
	frees(t, choose(a, "a", c, "b", c), "a", "c")
	frees(t, choose(b, "a", c, "b", c), "b", "c")
	frees(t, the(a, 3), "a")
	frees(t, pair(pair(c, b), a), "a", "b", "c")
	for _, k := range heads() {
		frees(t, of(k, app(b, a)), "a", "b")
	}
}

// TestFreeOrder: P12.2, by bytes, each once.
func TestFreeOrder(t *testing.T) {
	want := []string{"A", "B", "Z", "Z'", "Z0", "Za", "a", "a'", "a''", "a0", "a10", "a2", "aA", "a_", "aa", "b", strings.Repeat("n", 30), strings.Repeat("n", 31)}
	var l []api.Term
	for _, name := range want {
		l = append(l, v(name), lam(name, v(name)), v(name))
	}
	slices.Reverse(l)
	frees(t, balanced(l), want...)
}

// TestFreeAny: P12.2, terms by chance against the plain reading; the list is the caller's own.
func TestFreeAny(t *testing.T) {
	chance := newChance(3)
	for range 3000 {
		x := someTerm(chance, 1+chance.IntN(7), []string{"a", "b", "c", "d"}, 2)
		frees(t, x, plainNames(x)...)
		if l, _ := term.Free(x); len(l) > 0 {
			l[0] = "spoiled"
			frees(t, x, plainNames(x)...)
		}
	}
}

// TestFreeRefused: P12.2, Check's errors.
func TestFreeRefused(t *testing.T) {
	for x, want := range map[*api.Term]api.Errno{{}: api.ErrTerm, {Kind: api.TVar}: api.ErrTerm, ptr(lam("fun", v("x"))): api.ErrTerm, ptr(tall(1025, v("x"))): api.ErrLarge, ptr(sized(65537, "x")): api.ErrLarge} {
		if l, e := term.Free(*x); len(l) != 0 || e != want {
			t.Errorf("Free(%s): %q, error %d, not %d", show(*x), l, e, want)
		}
	}
	frees(t, sized(65536, "x"), "x")
	frees(t, tall(1024, v("x")), "x")
}

func ptr(x api.Term) *api.Term { return &x }

// TestAlpha: P12.3, bound names may differ, if they stand for what is bound at the same place; free ones may not.
func TestAlpha(t *testing.T) {
	a, b, c := v("a"), v("b"), v("c")
	alpha(t, a, a, true)
	alpha(t, a, b, false)
	alpha(t, lam("a", c), lam("b", c), true)
	alpha(t, lam("a", c), lam("c", c), false)
	alpha(t, lam("a", lam("b", app(a, b))), lam("b", lam("a", app(b, a))), true)
	alpha(t, lam("a", lam("b", app(a, b))), lam("a", lam("b", app(b, a))), false)
	alpha(t, lam("a", lam("b", app(a, b))), lam("a", lam("a", app(a, a))), false)
	alpha(t, lam("a", lam("a", a)), lam("a", lam("b", b)), true)
	alpha(t, lam("a", lam("a", a)), lam("b", lam("a", b)), false)
	alpha(t, app(lam("a", a), a), app(lam("b", b), a), true)
	alpha(t, app(lam("a", a), a), app(lam("b", b), b), false)
	alpha(t, lam("a", app(lam("a", a), a)), lam("a", app(lam("b", b), a)), true)
	alpha(t, lam("a", app(lam("a", a), a)), lam("a", app(lam("b", b), b)), false)
	alpha(t, lam("a", app(lam("b", b), b)), lam("a", app(lam("a", a), b)), true)
	alpha(t, let("a", a, a), let("b", a, b), true)
	alpha(t, let("a", a, a), let("b", b, b), false)
	alpha(t, let("a", c, a), let("c", c, a), false)
	alpha(t, choose(c, "a", a, "b", b), choose(c, "b", b, "a", a), true)
	alpha(t, choose(c, "a", a, "b", b), choose(c, "b", b, "b", b), true)
	alpha(t, choose(c, "a", a, "b", b), choose(c, "a", a, "b", a), false)
	alpha(t, choose(c, "a", b, "b", b), choose(c, "b", b, "b", b), false)
	alpha(t, choose(a, "a", a, "b", b), choose(a, "b", b, "a", a), true)
	alpha(t, choose(a, "a", a, "b", b), choose(b, "b", b, "a", a), false)
}

// TestAlphaOther: P12.3, all else must be the same: kinds, formulas, each part.
func TestAlphaOther(t *testing.T) {
	alpha(t, the(v("a"), 3), the(v("a"), 3), true)
	alpha(t, the(v("a"), 3), the(v("a"), 4), false)
	alpha(t, the(v("a"), 0), v("a"), false)
	alpha(t, app(v("a"), v("b")), pair(v("a"), v("b")), false)
	alpha(t, let("a", v("a"), v("b")), app(v("a"), v("b")), false)
	l := append(holders(v("a")), v("a"))
	for i, x := range l {
		for j, y := range l {
			alpha(t, x, clone(y), i == j || nameless(x) == nameless(y))
		}
	}
	for _, x := range holders(v("a")) {
		for i := range x.Sub {
			y := clone(x)
			y.Sub[i] = v("z")
			alpha(t, x, y, false)
		}
	}
}

// TestAlphaAll: P12.3, all small terms, two by two, against texts in which bound names are told by numbers.
func TestAlphaAll(t *testing.T) {
	var l []api.Term
	for n := 1; n < 4; n++ {
		l = append(l, allTerms(n, []string{"a", "b"}, 1)...)
	}
	for _, x := range l {
		for _, y := range l {
			if term.Alpha(x, y) != (nameless(x) == nameless(y)) {
				t.Fatalf("Alpha(%s, %s): %v", show(x), show(y), term.Alpha(x, y))
			}
		}
	}
}

// TestAlphaAny: P12.3, larger terms by chance, each against itself with other bound names, and with one name turned.
func TestAlphaAny(t *testing.T) {
	chance := newChance(4)
	for range 3000 {
		names := []string{"a", "b", "c", "v0"}
		x := someTerm(chance, 1+chance.IntN(6), names, 2)
		next := 0
		y := renamed(x, &next)
		wasX, wasY := clone(x), clone(y)
		alpha(t, x, y, true)
		z := turnName(chance, y, append(names, "own1", "own2"))
		alpha(t, x, z, nameless(x) == nameless(z))
		if !alike(x, wasX) || !alike(y, wasY) {
			t.Errorf("Alpha has changed %s or %s", show(wasX), show(wasY))
		}
	}
}

// turnName is a term in which one place, by chance, has another name.
func turnName(chance interface{ IntN(int) int }, x api.Term, names []string) api.Term {
	x = clone(x)
	at := &x
	for len(at.Sub) > 0 {
		at = &at.Sub[chance.IntN(len(at.Sub))]
	}
	at.Name = names[chance.IntN(len(names))]
	return x
}

// TestAlphaRefused: P12.3, what Check does not take is like nothing, itself neither.
func TestAlphaRefused(t *testing.T) {
	for _, x := range []api.Term{{}, {Kind: api.TVar}, lam("in", v("x")), app(v("x"), v("let")), the(v("x"), 1024), tall(1025, v("x")), sized(65537, "x")} {
		alpha(t, x, x, false)
		alpha(t, x, v("x"), false)
		alpha(t, v("x"), x, false)
	}
	for _, x := range append(holders(v("x")), v("x")) {
		for _, y := range turned(x) {
			alpha(t, x, y, false)
			for i, z := range holders(y) {
				alpha(t, holders(x)[i], z, false)
			}
		}
	}
	alpha(t, sized(65536, "x"), sized(65536, "x"), true)
	alpha(t, sized(65536, "x"), sized(65536, "y"), false)
	alpha(t, tall(1024, v("x")), tall(1024, v("x")), true)
	x := v("x")
	x.Sub = []api.Term{}
	alpha(t, x, v("x"), true)
}
