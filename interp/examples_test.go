package interp_test

import (
	"slices"
	"testing"

	"dictum/api"
	"dictum/formula"
	"dictum/interp"
)

// same asks for a formula that proves, and is proved by, that of a text.
func same(t *testing.T, x *formula.Table, id int, text string) {
	t.Helper()
	y := x.Copy()
	want := read(t, y, text)
	if !proves(y, want, id) || !proves(y, id, want) {
		t.Errorf("%s, not %s", show(x, id), text)
	}
}

// TestExampleCraig is the chapter's example 1.
func TestExampleCraig(t *testing.T) {
	x := formula.New()
	id, e := interp.Craig(x, read(t, x, "p & q"), read(t, x, "q | r"))
	if e != api.OK {
		t.Error(e)
	}
	same(t, x, id, "q")
	id, e = interp.Craig(x, read(t, x, "p & ~p"), read(t, x, "q"))
	if e != api.OK {
		t.Error(e)
	}
	same(t, x, id, "false")
	p, q := read(t, x, "p"), read(t, x, "q")
	untouched(t, x, func() {
		if id, e := interp.Craig(x, p, q); id != 0 || e != api.ErrInterp {
			t.Error(id, e)
		}
	})
}

// TestExampleOver is the chapter's example 2.
func TestExampleOver(t *testing.T) {
	for _, c := range []struct {
		text string
		all  bool
		want string
	}{
		{"p & (p -> q)", false, "q"},
		{"p | q", true, "q"},
		{"p -> q", true, "q"},
		{"p | ~p", false, "true"},
	} {
		x := formula.New()
		id, e := over(c.all)(x, read(t, x, c.text), "p")
		if e != api.OK {
			t.Error(c, e)
			continue
		}
		same(t, x, id, c.want)
	}
}

// TestExampleBeth is the chapter's example 3.
func TestExampleBeth(t *testing.T) {
	x := formula.New()
	id, ok, e := interp.Beth(x, read(t, x, "(p -> q) & (q -> p)"), "p")
	if !ok || e != api.OK {
		t.Error(id, ok, e)
	}
	same(t, x, id, "q")
	free := read(t, x, "p -> q")
	untouched(t, x, func() {
		if id, ok, e := interp.Beth(x, free, "p"); id != 0 || ok || e != api.OK {
			t.Error(id, ok, e)
		}
	})
}

// TestReadme is what README.md says of this package.
func TestReadme(t *testing.T) {
	x := formula.New()
	a, b := read(t, x, "p & (p -> q & r)"), read(t, x, "(q -> s) -> s | t")
	id, e := interp.Craig(x, a, b)
	if show(x, id) != "q" || e != api.OK {
		t.Error(show(x, id), e)
	}
	if _, e := interp.Craig(x, b, a); e != api.ErrInterp {
		t.Error(e)
	}
	c := read(t, x, "(p -> q) & (r -> p)")
	id, e = interp.Exists(x, c, "p")
	if show(x, id) != "r -> q" || e != api.OK {
		t.Error(show(x, id), e)
	}
	d := read(t, x, "((p -> q) -> r) -> p")
	id, e = interp.Forall(x, d, "p")
	if show(x, id) != "((q -> r) -> q) & ~r" || e != api.OK {
		t.Error(show(x, id), e)
	}
	f := read(t, x, "(p -> q | r) & (~p -> ~q) & (q | r -> p)")
	id, ok, e := interp.Beth(x, f, "p")
	if show(x, id) != "q | r" || !ok || e != api.OK {
		t.Error(show(x, id), ok, e)
	}
	if id, ok, e := interp.Beth(x, c, "p"); id != 0 || ok || e != api.OK {
		t.Error(id, ok, e)
	}
	if !slices.Equal(names(x, id), []string{"q", "r"}) {
		t.Error(names(x, id))
	}
}
