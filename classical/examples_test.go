package classical_test

import (
	"slices"
	"testing"

	"dictum/api"
	"dictum/classical"
	"dictum/formula"
	"dictum/syntax"
	"dictum/term"
	"dictum/types"
)

// chapter is the table of the chapter's examples: p 0, false 1, ~p 2, p | ~p 3.
func chapter(t *testing.T) *formula.Table {
	t.Helper()
	return made(t, atom("p"), bot(), imp(0, 1), or(0, 2))
}

// TestExampleTable is the chapter's example 1.
func TestExampleTable(t *testing.T) {
	x := chapter(t)
	for id, want := range map[int]string{3: "11", 2: "10"} {
		if l, v, e := classical.Table(x, id); !slices.Equal(l, []string{"p"}) || digits(v) != want || e != api.OK {
			t.Errorf("Table(%d): %v, %v, error %d", id, l, v, e)
		}
	}
	if is, n, e := classical.Always(x, 0); is || n != 0 || e != api.OK {
		t.Errorf("Always(0): %v, %d, error %d", is, n, e)
	}
	seq, e := classical.Models(x, 0)
	if l := collected(t, seq); !slices.Equal(l, to(1)) || e != api.OK {
		t.Errorf("Models(0): %v, error %d", l, e)
	}
}

// TestExampleDecide is the chapter's example 2.
func TestExampleDecide(t *testing.T) {
	x := chapter(t)
	c, e := classical.Decide(x, 3)
	if !c.Proved || len(c.Atoms) != 0 || len(c.Row) != 0 || e != api.OK {
		t.Fatalf("Decide(3): %s, error %d", show(c), e)
	}
	y := made(t, c.Rows...)
	if text := says(t, y, c.Form); text != "~~(p | ~p)" || types.Check(y, nil, c.Term, c.Form) != api.OK {
		t.Errorf("Decide(3): %s, %s", show(c), text)
	}
	c, e = classical.Decide(x, 0)
	if !alike(c, api.Classic{Atoms: []string{"p"}, Row: []bool{false}}) || e != api.OK {
		t.Errorf("Decide(0): %s, error %d", show(c), e)
	}
}

// TestExampleMade is the chapter's example 3. (Of ~(p & q) it tells Negations without `| false`, which P22.4 has, since ~A is A -> false, as it tells of p -> false.)
func TestExampleMade(t *testing.T) {
	x := chapter(t)
	if id, e := classical.Kolmogorov(x, 0); says(t, x, id) != "~~p" || e != api.OK {
		t.Errorf("Kolmogorov(0): %s, error %d", says(t, x, id), e)
	}
	for _, c := range []struct {
		of         func(*formula.Table, int) (int, api.Errno)
		text, want string
	}{
		{classical.Kolmogorov, "p & q", "~~(~~p & ~~q)"},
		{classical.Gentzen, "p | q", "~(~~~p & ~~~q)"},
		{classical.Negations, "~(p & q)", "~p | ~q | false"},
		{classical.Negations, "p -> false", "~p | false"},
	} {
		if id, e := c.of(x, read(t, x, c.text)); says(t, x, id) != c.want || e != api.OK {
			t.Errorf("%s: %s, error %d, not %s", c.text, says(t, x, id), e, c.want)
		}
	}
}

// TestReadme is what README.md shows.
func TestReadme(t *testing.T) {
	x := formula.New()
	a, _ := syntax.Parse(x, "((p -> q) -> p) -> p")
	b, _ := syntax.Parse(x, "p -> q")
	if l, v, e := classical.Table(x, b); !slices.Equal(l, []string{"p", "q"}) || !slices.Equal(v, []bool{true, false, true, true}) || e != api.OK {
		t.Error(l, v, e)
	}
	if is, n, e := classical.Always(x, b); is || n != 1 || e != api.OK {
		t.Error(is, n, e)
	}
	seq, e := classical.Models(x, b)
	if l := collected(t, seq); !slices.Equal(l, to(0, 2, 3)) || e != api.OK {
		t.Error(l, e)
	}
	n, e := classical.Negations(x, b)
	if text := says(t, x, n); text != "~p | q" || e != api.OK {
		t.Error(text, e)
	}
	if is, e := classical.Equal(x, b, n); !is || e != api.OK {
		t.Error(is, e)
	}
	k, e := classical.Kolmogorov(x, b)
	if text := says(t, x, k); text != "~~(~~p -> ~~q)" || e != api.OK {
		t.Error(text, e)
	}
	d, _ := syntax.Parse(x, "p | q")
	g, e := classical.Gentzen(x, d)
	if text := says(t, x, g); text != "~(~~~p & ~~~q)" || e != api.OK {
		t.Error(text, e)
	}
	h, e := classical.Double(x, a)
	if text := says(t, x, h); text != "~~(((p -> q) -> p) -> p)" || e != api.OK {
		t.Error(text, e)
	}
	c, e := classical.Decide(x, a)
	y, f := formula.From(c.Rows)
	if text := says(t, y, c.Form); !c.Proved || text != "~~(((p -> q) -> p) -> p)" || e != api.OK || f != api.OK {
		t.Error(show(c), text, e, f)
	}
	if text, _ := term.Print(y, c.Term); types.Check(y, nil, c.Term, c.Form) != api.OK {
		t.Error(text)
	}
	c, e = classical.Decide(x, b)
	if !alike(c, api.Classic{Atoms: []string{"p", "q"}, Row: []bool{true, false}}) || e != api.OK {
		t.Error(show(c), e)
	}
}
