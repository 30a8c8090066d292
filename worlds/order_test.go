package worlds_test

import (
	"slices"
	"testing"

	"dictum/api"
	"dictum/worlds"
)

// above is Above's answer of a model and a world that it takes.
func above(t *testing.T, m api.Model, w int) []int {
	t.Helper()
	l, e := worlds.Above(m, w)
	if e != api.OK {
		t.Fatalf("Above(%s, %d): error %d", show(m), w, e)
	}
	return l
}

// TestAbove: P17.2, by hand: the world itself, those told, all that follows; rising, each once.
func TestAbove(t *testing.T) {
	for _, c := range []struct {
		m    api.Model
		w    int
		want []int
	}{
		{apart(1), 0, to(0)}, {up(to(0)), 0, to(0)}, {apart(3), 1, to(1)},
		{chain(4), 0, to(0, 1, 2, 3)}, {chain(4), 2, to(2, 3)}, {chain(4), 3, to(3)},
		{diamond(), 0, to(0, 1, 2, 3)}, {diamond(), 1, to(1, 3)}, {diamond(), 2, to(2, 3)}, {diamond(), 3, to(3)},
		{up(to(), to(0), to(1)), 2, to(0, 1, 2)}, {up(to(), to(0), to(1)), 1, to(0, 1)}, {up(to(), to(0), to(1)), 0, to(0)},
		{up(to(3, 3, 1, 0), to(), to(0), to()), 0, to(0, 1, 3)}, {up(to(3, 3, 1, 0), to(), to(0), to()), 2, to(0, 1, 2, 3)},
	} {
		if l := above(t, c.m, c.w); !slices.Equal(l, c.want) {
			t.Errorf("Above(%s, %d): %v", show(c.m), c.w, l)
		}
	}
}

// TestAboveIsNew: R3, what Above answers is the caller's own.
func TestAboveIsNew(t *testing.T) {
	m := diamond()
	untouched(t, m, func() {
		l := above(t, m, 0)
		for i := range l {
			l[i] = 77
		}
		l = append(l[:1], 78, 79)
		if again := above(t, m, 0); !slices.Equal(again, to(0, 1, 2, 3)) || len(l) != 3 {
			t.Error(again)
		}
	})
}

// TestRoot: P17.2, the world that all are above, wherever it stands; else 0 and false.
func TestRoot(t *testing.T) {
	for _, c := range []struct {
		m    api.Model
		want int
		ok   bool
	}{
		{apart(1), 0, true}, {up(to(0)), 0, true}, {apart(2), 0, false}, {chain(4), 0, true}, {diamond(), 0, true},
		{up(to(), to(0), to(1)), 2, true}, {up(to(2), to(0, 2), to()), 1, true}, {up(to(), to(0, 2), to()), 1, true}, {up(to(2), to(2), to()), 0, false}, {up(to(1), to(), to()), 0, false}, {up(to(), to(2), to()), 0, false},
		{up(to(1), to(2), to(), to(2)), 0, false}, {up(to(1), to(2), to(), to(0)), 3, true}, {api.Model{}, 0, false}, {up(to(1), to(0)), 0, false}, {up(to(1), to(2), to(1)), 0, false},
	} {
		if w, ok := worlds.Root(c.m); w != c.want || ok != c.ok {
			t.Errorf("Root(%s): %d, %v", show(c.m), w, ok)
		}
	}
	bad := diamond()
	bad.Val[0] = names("p", "q")
	if w, ok := worlds.Root(bad); w != 0 || ok {
		t.Error(w, ok)
	}
}

// TestTrue: P17.2, what stands in the row, and nothing else; a text that is no name stands in none.
func TestTrue(t *testing.T) {
	m := with(up(to(1), to()), "p'", "P,p',q")
	for _, c := range []struct {
		w    int
		atom string
		want bool
	}{
		{0, "p'", true}, {0, "p", false}, {0, "q", false}, {0, "P", false}, {1, "p'", true}, {1, "q", true}, {1, "P", true}, {1, "p", false}, {1, "Q", false}, {1, "r", false},
		{1, "", false}, {1, "P,p',q", false}, {1, "q ", false}, {1, "true", false}, {1, "false", false}, {0, "\xff", false},
	} {
		if ok, e := worlds.True(m, c.w, c.atom); ok != c.want || e != api.OK {
			t.Errorf("True %d, %q: %v, error %d", c.w, c.atom, ok, e)
		}
	}
}

// TestHeight: P17.2, the longest row of worlds, each above the one ahead and another one; a world that tells itself is no step.
func TestHeight(t *testing.T) {
	for _, c := range []struct {
		m    api.Model
		want int
	}{
		{apart(1), 1}, {up(to(0, 0)), 1}, {apart(5), 1}, {chain(2), 2}, {chain(7), 7}, {diamond(), 3}, {up(to(1, 1), to(1)), 2},
		{up(to(1, 2, 3), to(2, 3), to(3), to()), 4}, {up(to(3, 1), to(2), to(3), to()), 4}, {up(to(), to(0), to(1)), 3}, {up(to(), to(2), to(3), to(), to(0)), 3}, {up(to(1), to(), to(3), to(4), to()), 3}, {up(to(1, 2, 3, 4), to(), to(), to(), to()), 2},
		{chain(512), 512}, {apart(512), 1},
	} {
		if h, e := worlds.Height(c.m); h != c.want || e != api.OK {
			t.Errorf("Height(%s): %d, error %d", show(c.m), h, e)
		}
	}
}

// TestTidy: P17.3, by hand.
func TestTidy(t *testing.T) {
	for _, c := range []struct{ m, want api.Model }{
		{up(to(0)), up(to())}, {up(to(1, 1), to(1)), up(to(1), to())}, {diamond(), diamond()},
		{up(to(3, 2, 1), to(3), to(3), to()), up(to(1, 2), to(3), to(3), to())}, {up(to(2, 1), to(), to(1)), up(to(2), to(), to(1))},
		{up(to(1, 2, 3), to(2, 3), to(3), to()), chain(4)}, {up(to(), to(0), to(1, 0)), up(to(), to(0), to(1))}, {up(to(4, 3, 2, 1, 0), to(), to(), to(), to()), up(to(1, 2, 3, 4), to(), to(), to(), to())},
		{with(up(to(0, 2, 1), to(2), to()), "P", "P,p", "P,p,q"), with(chain(3), "P", "P,p", "P,p,q")},
	} {
		untouched(t, c.m, func() {
			if got, e := worlds.Tidy(c.m); !alike(got, c.want) || e != api.OK {
				t.Errorf("Tidy(%s): %s, error %d", show(c.m), show(got), e)
			}
		})
	}
}

// TestTidyIsNew: R3, nothing of what Tidy answers is the model's, and no two of its rows share memory.
func TestTidyIsNew(t *testing.T) {
	m := with(up(to(1, 2, 3), to(2), to(3), to()), "a", "a,b", "a,b,c", "a,b,c,d")
	m.Val[1] = m.Val[3][:2] // rows that are handed in may share memory
	want := with(chain(4), "a", "a,b", "a,b,c", "a,b,c,d")
	untouched(t, m, func() {
		got, e := worlds.Tidy(m)
		if !alike(got, want) || e != api.OK {
			t.Fatal(show(got), e)
		}
		for w := range got.Up { // what is put behind a row is seen in no other one
			_, _ = append(got.Up[w], 90, 91, 92), append(got.Val[w], "x", "y", "z")
		}
		if !alike(got, want) {
			t.Error(show(got))
		}
		for w := range got.Up {
			for i := range got.Up[w] {
				got.Up[w][i] = 99
			}
			for i := range got.Val[w] {
				got.Val[w][i] = "changed" + got.Val[w][i]
			}
		}
		for w := range got.Up { // each was changed once
			for i, name := range got.Val[w] {
				if name != "changed"+want.Val[w][i] {
					t.Error(got.Val[w])
				}
			}
		}
	})
	if again, _ := worlds.Tidy(m); !alike(again, want) {
		t.Error(show(again))
	}
}

// TestLarge: P17.2 and P17.3, 512 worlds: chains in any order, all told above all, worlds in two rows, a tree.
func TestLarge(t *testing.T) {
	const many = api.MaxWorlds
	place := newChance(4).Perm(many)
	full, two, tree := apart(many), apart(many), apart(many)
	for i, w := range place {
		for _, v := range place[i:] {
			full.Up[w] = append(full.Up[w], v)
		}
		if i < many/2 {
			for _, v := range place[many/2:] {
				two.Up[w] = append(two.Up[w], v)
			}
		}
		if i > 0 {
			from := place[(i-1)/2]
			tree.Up[from] = append(tree.Up[from], w)
		}
	}
	for _, c := range []struct {
		m      api.Model
		height int
		root   bool
		above  []int // how many worlds are above the first and the last one
		told   int   // how many numbers Tidy has
	}{
		{full, many, true, to(many, 1), many - 1}, {two, 2, false, to(1+many/2, 1), many * many / 4}, {tree, 10, true, to(many, 1), many - 1}, {apart(many), 1, false, to(1, 1), 0},
	} {
		checked(t, c.m, api.OK)
		untouched(t, c.m, func() {
			if h, e := worlds.Height(c.m); h != c.height || e != api.OK {
				t.Errorf("Height: %d, error %d", h, e)
			}
			if w, ok := worlds.Root(c.m); ok != c.root || ok && w != place[0] || !ok && w != 0 {
				t.Errorf("Root: %d, %v", w, ok)
			}
			if a, b := above(t, c.m, place[0]), above(t, c.m, place[many-1]); len(a) != c.above[0] || len(b) != c.above[1] {
				t.Errorf("Above: %d and %d worlds", len(a), len(b))
			}
			tidy, e := worlds.Tidy(c.m)
			if told := len(slices.Concat(tidy.Up...)); told != c.told || e != api.OK {
				t.Errorf("Tidy: %d numbers, error %d", told, e)
			}
			again, _ := worlds.Tidy(tidy)
			if !alike(again, tidy) {
				t.Error("Tidy of Tidy is not Tidy")
			}
		})
	}
}
