package term_test

import (
	"math"
	"slices"
	"testing"

	"dictum/api"
	"dictum/term"
)

// rightTerms are terms of each kind with just what it has.
func rightTerms() []api.Term {
	out := append(holders(v("x")), v("x"), the(v("x"), 0), the(v("x"), 1), the(v("x"), api.MaxForms-1), choose(v("x"), "x", v("x"), "x", v("x")))
	for _, name := range someNames() {
		out = append(out, v(name), lam(name, v("x")), let(name, v("x"), v("x")), choose(v("x"), name, v("x"), "x", v("x")), choose(v("x"), "x", v("x"), name, v("x")))
	}
	return out
}

// turned are terms that are like a right one but for one thing that its kind does not have, or lacks.
func turned(x api.Term) []api.Term {
	var out []api.Term
	turn := func(f func(y *api.Term)) {
		y := clone(x)
		f(&y)
		out = append(out, y)
	}
	for _, name := range noNames() {
		if x.Name != "" {
			turn(func(y *api.Term) { y.Name = name })
		}
		if x.Other != "" {
			turn(func(y *api.Term) { y.Other = name })
		}
	}
	for _, name := range append(someNames(), "_", "fun", " ") {
		if x.Name == "" {
			turn(func(y *api.Term) { y.Name = name })
		}
		if x.Other == "" {
			turn(func(y *api.Term) { y.Other = name })
		}
	}
	for _, form := range noForms() {
		turn(func(y *api.Term) { y.Form = form })
	}
	if x.Kind != api.TThe {
		turn(func(y *api.Term) { y.Form = 1 })
		turn(func(y *api.Term) { y.Form = api.MaxForms - 1 })
	}
	turn(func(y *api.Term) { y.Sub = append(y.Sub, v("x")) })
	for i := range x.Sub {
		turn(func(y *api.Term) { y.Sub = slices.Delete(y.Sub, i, i+1) })
	}
	for _, k := range noKinds() {
		turn(func(y *api.Term) { y.Kind = k })
	}
	return out
}

// noKinds are numbers that no kind has.
func noKinds() []api.TermKind {
	return []api.TermKind{0, -1, -12, 13, 14, 256, 257, 1 << 32, 1<<32 + 1, math.MaxInt, math.MinInt, math.MinInt + 1}
}

// TestCheck: P12.1, terms of each kind, and such within each part of each kind.
func TestCheck(t *testing.T) {
	for _, x := range rightTerms() {
		checks(t, x, api.OK)
		for _, y := range holders(x) {
			checks(t, y, api.OK)
		}
	}
}

// TestCheckTurned: P12.1, whatever one thing is none of the table's, in the term itself and within each part of each kind.
func TestCheckTurned(t *testing.T) {
	for _, x := range append(holders(v("x")), v("x")) {
		for _, y := range turned(x) {
			checks(t, y, api.ErrTerm)
			for _, z := range holders(y) {
				checks(t, z, api.ErrTerm)
			}
		}
	}
	checks(t, api.Term{}, api.ErrTerm)
	checks(t, api.Term{Kind: api.TApp}, api.ErrTerm)
	checks(t, api.Term{Sub: []api.Term{v("x")}}, api.ErrTerm)
}

// TestCheckKinds: P12.1, what is a term of one kind is one of just those others that have the same.
func TestCheckKinds(t *testing.T) {
	groups := [][]api.TermKind{{api.TVar}, {api.TLam}, {api.TApp, api.TPair}, {api.TFst, api.TSnd, api.TInl, api.TInr, api.TAbort, api.TThe}, {api.TCase}, {api.TThe}, {api.TLet}}
	for _, x := range append(holders(v("x")), v("x"), the(v("x"), 3)) {
		for k := api.TVar; k <= api.TLet; k++ {
			y := clone(x)
			y.Kind = k
			fits := slices.ContainsFunc(groups, func(l []api.TermKind) bool {
				return slices.Contains(l, k) && slices.Contains(l, x.Kind)
			}) && (x.Kind != api.TThe || k == api.TThe)
			want := api.ErrTerm
			if fits {
				want = api.OK
			}
			checks(t, y, want)
		}
	}
}

// TestCheckLists: R3 and R7, nil and empty lists are the same, and what room a list has behind its end is nobody's.
func TestCheckLists(t *testing.T) {
	x := v("x")
	x.Sub = []api.Term{}
	checks(t, x, api.OK)
	x.Sub = []api.Term{{}, {Kind: 99}}[:0]
	checks(t, lam("x", x), api.OK)
	y := lam("x", x)
	y.Sub = append(slices.Clip(y.Sub), api.Term{})[:1]
	checks(t, y, api.OK)
	if term.Size(y) != 2 || term.Deep(y) != 2 {
		t.Error(term.Size(y), term.Deep(y))
	}
}

// measures asks for that Size and that Deep.
func measures(t *testing.T, x api.Term, size, deep int) {
	t.Helper()
	if n, l := term.Size(x), term.Deep(x); n != size || l != deep {
		t.Errorf("%s: %d nodes, %d levels, not %d and %d", show(x), n, l, size, deep)
	}
}

// TestMeasures: P12.1, nodes and levels of small terms, each of whose parts counts.
func TestMeasures(t *testing.T) {
	measures(t, v("x"), 1, 1)
	measures(t, api.Term{}, 1, 1)
	measures(t, app(v("x"), v("y")), 3, 2)
	measures(t, choose(v("a"), "x", lam("y", v("x")), "z", v("b")), 5, 3)
	for _, x := range holders(v("x")) {
		measures(t, x, 1+len(x.Sub), 2)
		for _, y := range holders(x) {
			measures(t, y, len(x.Sub)+1+len(y.Sub), 3)
		}
	}
	chance := newChance(2)
	for range 2000 {
		x := someTerm(chance, 1+chance.IntN(7), []string{"x", "y"}, 9)
		measures(t, x, plainSize(x), plainDeep(x))
	}
}

// TestMeasuresAny: P12.1, Size and Deep are of any term, also of one that is none of the table's.
func TestMeasuresAny(t *testing.T) {
	for _, x := range append(holders(v("x")), v("x")) {
		for _, y := range turned(x) {
			measures(t, y, plainSize(y), plainDeep(y))
		}
	}
	wide := api.Term{Kind: -5, Form: -5, Name: "(", Sub: make([]api.Term, 1000)}
	measures(t, wide, 1001, 2)
	wide.Sub[999] = of(0, api.Term{Kind: api.TVar, Sub: []api.Term{clone(wide)}})
	measures(t, wide, 1000+2+1001, 5)
}

// TestNodes: P12.1, up to MaxTerm nodes, and one more; ahead of ErrTerm, wherever what is none of the table's stands.
func TestNodes(t *testing.T) {
	measures(t, sized(65535, "x"), 65535, 16)
	checks(t, sized(65536, "x"), api.OK)
	checks(t, sized(65537, "x"), api.ErrLarge)
	checks(t, sized(65538, "x"), api.ErrLarge)
	checks(t, sized(200000, "x"), api.ErrLarge)
	checks(t, sized(65536, "fun"), api.ErrTerm)
	checks(t, sized(65537, "fun"), api.ErrLarge)
	for size, want := range map[int]int{65535: 65535, 65536: 65536, 65537: 65537, 65538: 65537, 65539: 65537, 300000: 65537} {
		if n := term.Size(sized(size, "x")); n != want {
			t.Errorf("%d nodes: %d", size, n)
		}
		wide := api.Term{Kind: api.TPair, Sub: make([]api.Term, size-1)}
		if n := term.Size(wide); n != want {
			t.Errorf("%d nodes in a row: %d", size, n)
		}
		if l := term.Deep(wide); l != 2 {
			t.Errorf("%d nodes in a row: %d levels", size, l)
		}
	}
	checks(t, api.Term{Kind: api.TPair, Sub: make([]api.Term, 65535)}, api.ErrTerm)
	checks(t, api.Term{Kind: api.TPair, Sub: make([]api.Term, 65536)}, api.ErrLarge)
}

// TestLevels: P12.1, up to MaxDeep levels, and one more, through each part of each kind; ahead of ErrTerm.
func TestLevels(t *testing.T) {
	for i := range holders(v("x")) {
		x := v("x")
		for range 1022 {
			x = holders(x)[i]
		}
		if l := term.Deep(x); l != 1023 {
			t.Errorf("%d levels", l)
		}
		for levels := 1024; levels < 1030; levels++ {
			x = holders(x)[i]
			want := api.ErrLarge
			if levels == 1024 {
				want = api.OK
			}
			checks(t, x, want)
			if l := term.Deep(x); l != min(levels, 1025) {
				t.Errorf("%d levels, not %d", l, levels)
			}
		}
	}
	checks(t, tall(1024, api.Term{}), api.ErrTerm)
	checks(t, tall(1025, api.Term{}), api.ErrLarge)
	checks(t, tall(1025, v("x")), api.ErrLarge)
	measures(t, tall(60000, v("x")), 60000, 1025)
	measures(t, tall(100000, v("x")), 65537, 1025)
}

// TestShared: P12.1, a part that stands twice counts twice, also if it lies in memory but once; and so often that nobody could go through all places.
func TestShared(t *testing.T) {
	x, levels := v("x"), 1
	for i := range 1100 {
		x = []api.Term{pair(x, x), app(pair(x, v("y")), x), choose(x, "n", of(api.TFst, x), "m", x)}[i%3]
		levels += []int{1, 2, 2}[i%3]
		size, want := api.MaxTerm+1, api.ErrLarge
		if i < 15 {
			size = plainSize(x)
		}
		if size <= api.MaxTerm && levels <= api.MaxDeep {
			want = api.OK
		}
		measures(t, x, min(size, api.MaxTerm+1), min(levels, api.MaxDeep+1))
		if e := term.Check(x); e != want {
			t.Errorf("%d levels: error %d, not %d", levels, e, want)
		}
	}
}

// TestSharedDeep: P12.1, levels of what stands both near the top and far down, of a term of too many nodes.
func TestSharedDeep(t *testing.T) {
	wide := sized(70000, "x") // 18 levels
	for _, far := range []int{400, 504, 505, 506, 507, 508, 509, 510, 1000} {
		near := tall(500, wide) // 517 levels
		measures(t, pair(near, tall(far, near)), 65537, min(517+far, 1025))
		measures(t, pair(tall(far, near), near), 65537, min(517+far, 1025))
		measures(t, pair(near, tall(far, pair(tall(300, v("x")), near))), 65537, min(518+far, 1025))
		measures(t, pair(pair(near, near), tall(far, pair(near, tall(3, near)))), 65537, min(520+far, 1025))
	}
}

// TestEndless: R1, lists that hold themselves.
func TestEndless(t *testing.T) {
	l := make([]api.Term, 2)
	l[0] = v("x")
	l[1] = api.Term{Kind: api.TApp, Sub: l}
	measures(t, l[1], 65537, 1025)
	if e := term.Check(l[1]); e != api.ErrLarge {
		t.Error(e)
	}
	l[0] = api.Term{Kind: api.TPair, Sub: l}
	measures(t, l[0], 65537, 1025)
}
