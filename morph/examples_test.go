package morph_test

import (
	"slices"
	"testing"

	"dictum/api"
	"dictum/morph"
)

// TestExampleDiamond is the chapter's example 1.
func TestExampleDiamond(t *testing.T) {
	m := diamond()
	part, l, e := morph.Above(m, 1)
	if !alike(part, with(up(to(1), nil), "p", "p,q")) || !slices.Equal(l, to(1, 3)) || e != api.OK {
		t.Error(show(part), l, e)
	}
	whole, class, e := morph.Quotient(m)
	if !alike(whole, with(up(to(1), to(2), nil), "", "p", "p,q")) || !slices.Equal(class, to(0, 1, 1, 2)) || e != api.OK {
		t.Error(show(whole), class, e)
	}
	if class, e := morph.Classes(m); !slices.Equal(class, to(0, 1, 1, 2)) || e != api.OK {
		t.Error(class, e)
	}
}

// TestExampleGlue is the chapter's example 2.
func TestExampleGlue(t *testing.T) {
	l := []api.Model{single("p"), single("")}
	whole, places, e := morph.Glue(l, nil)
	if !alike(whole, with(up(to(1, 2), nil, nil), "", "p", "")) || !slices.Equal(places, to(1, 2)) || e != api.OK {
		t.Error(show(whole), places, e)
	}
	whole, places, e = morph.Glue(l, names("p"))
	if !empty(whole) || len(places) != 0 || e != api.ErrMorph {
		t.Error(show(whole), places, e)
	}
}

// TestExampleUnravel is the chapter's example 3.
func TestExampleUnravel(t *testing.T) {
	tree, ends, e := morph.Unravel(diamond(), 0)
	if !alike(tree, with(up(to(1, 2), to(3), to(4), nil, nil), "", "p", "p", "p,q", "p,q")) || !slices.Equal(ends, to(0, 1, 2, 3, 3)) || e != api.OK {
		t.Error(show(tree), ends, e)
	}
}

// TestReadme is what README.md shows.
func TestReadme(t *testing.T) {
	m := api.Model{Up: [][]int{{1, 2}, {3}, {3}, {}}, Val: [][]string{{}, {"p"}, {"p"}, {"p", "q"}}}
	n, l, e := morph.Above(m, 1)
	if !alike(n, with(up(to(1), nil), "p", "p,q")) || !slices.Equal(l, to(1, 3)) || e != api.OK {
		t.Error(show(n), l, e)
	}
	c, e := morph.Classes(m)
	if !slices.Equal(c, to(0, 1, 1, 2)) || e != api.OK {
		t.Error(c, e)
	}
	n, c, e = morph.Quotient(m)
	if !alike(n, with(up(to(1), to(2), nil), "", "p", "p,q")) || !slices.Equal(c, to(0, 1, 1, 2)) || e != api.OK {
		t.Error(show(n), c, e)
	}
	if ok, e := morph.Bounded(m, n, c); !ok || e != api.OK {
		t.Error(ok, e)
	}
	if ok, e := morph.Bounded(m, n, []int{0, 1, 2, 2}); ok || e != api.OK {
		t.Error(ok, e)
	}
	n, l, e = morph.Unravel(m, 0)
	if !alike(n, with(up(to(1, 2), to(3), to(4), nil, nil), "", "p", "p", "p,q", "p,q")) || !slices.Equal(l, to(0, 1, 2, 3, 3)) || e != api.OK {
		t.Error(show(n), l, e)
	}
	one := api.Model{Up: [][]int{{}}, Val: [][]string{{"p"}}}
	n, l, e = morph.Glue([]api.Model{one, m, one}, nil)
	if !alike(n, with(up(to(1, 2, 6), nil, to(3, 4), to(5), to(5), nil, nil), "", "p", "", "p", "p", "p,q", "p")) || !slices.Equal(l, to(1, 2, 6)) || e != api.OK {
		t.Error(show(n), l, e)
	}
	if _, _, e = morph.Glue([]api.Model{one, m}, []string{"p"}); e != api.ErrMorph {
		t.Error(e)
	}
}
