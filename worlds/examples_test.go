package worlds_test

import (
	"slices"
	"testing"

	"dictum/api"
	"dictum/worlds"
)

// TestExampleDiamond is the chapter's example 1.
func TestExampleDiamond(t *testing.T) {
	m := api.Model{Up: [][]int{{1, 2}, {3}, {3}, {}}, Val: [][]string{{}, {"p"}, {"p"}, {"p", "q"}}}
	checked(t, m, api.OK)
	if w, ok := worlds.Root(m); w != 0 || !ok {
		t.Error(w, ok)
	}
	if h, e := worlds.Height(m); h != 3 || e != api.OK {
		t.Error(h, e)
	}
	if l, e := worlds.Above(m, 1); !slices.Equal(l, to(1, 3)) || e != api.OK {
		t.Error(l, e)
	}
	if s := worlds.Text(m); s != "0 > 1 2\n1 > 3 : p\n2 > 3 : p\n3 : p q\n" {
		t.Errorf("%q", s)
	}
}

// TestExampleChecks is the chapter's example 2.
func TestExampleChecks(t *testing.T) {
	checked(t, api.Model{Up: [][]int{{1}, {0}}, Val: [][]string{{}, {}}}, api.ErrModel)
	checked(t, api.Model{Up: [][]int{{1}, {}}, Val: [][]string{{"p"}, {}}}, api.ErrModel)
	checked(t, api.Model{Up: [][]int{{0}}, Val: [][]string{{}}}, api.OK)
}

// TestExampleTidy is the chapter's example 3.
func TestExampleTidy(t *testing.T) {
	got, e := worlds.Tidy(up(to(1, 2, 0), to(2), to()))
	if !alike(got, up(to(1), to(2), to())) || e != api.OK {
		t.Error(show(got), e)
	}
}

// TestReadme is what README.md shows.
func TestReadme(t *testing.T) {
	m := api.Model{Up: [][]int{{2, 1}, {2}, {2}}, Val: [][]string{{}, {"p"}, {"p", "q"}}}
	if e := worlds.Check(m); e != api.OK {
		t.Error(e)
	}
	if l, e := worlds.Above(m, 1); !slices.Equal(l, to(1, 2)) || e != api.OK {
		t.Error(l, e)
	}
	if ok, e := worlds.Leq(m, 0, 2); !ok || e != api.OK {
		t.Error(ok, e)
	}
	if w, ok := worlds.Root(m); w != 0 || !ok {
		t.Error(w, ok)
	}
	if ok, e := worlds.True(m, 1, "q"); ok || e != api.OK {
		t.Error(ok, e)
	}
	if h, e := worlds.Height(m); h != 3 || e != api.OK {
		t.Error(h, e)
	}
	tidy, e := worlds.Tidy(m)
	if !alike(tidy, with(up(to(1), to(2), nil), "", "p", "p,q")) || e != api.OK {
		t.Error(show(tidy), e)
	}
	s := worlds.Text(tidy)
	if s != "0 > 1\n1 > 2 : p\n2 : p q\n" {
		t.Errorf("%q", s)
	}
	takeText(t, s, tidy)
}
