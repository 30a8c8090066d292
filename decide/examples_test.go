package decide_test

import (
	"testing"

	"dictum/api"
	"dictum/decide"
	"dictum/formula"
	"dictum/syntax"
	"dictum/term"
	"dictum/worlds"
)

// TestExampleText is the chapter's example 1.
func TestExampleText(t *testing.T) {
	a, f := heldText(t, "p -> p")
	want := api.Answer{Proved: true, Rows: []api.Node{atom("p"), imp(0, 0)}, Form: 1, Term: lam("h0", v("h0")), Visits: 2}
	if !alike(a, want) || f != (api.Fault{}) {
		t.Error(show(a), f)
	}
	a, f = heldText(t, "p | ~p")
	want = api.Answer{Rows: []api.Node{atom("p"), bot(), imp(0, 1), join(api.KOr, 0, 2)}, Form: 3, Model: with(up(to(1, 2), nil, nil), "", "p", ""), Visits: 4}
	if !alike(a, want) || f != (api.Fault{}) {
		t.Error(show(a), f)
	}
	forced := plainForced(a.Rows, a.Model)
	if forced[0][0] || forced[2][0] {
		t.Error(forced)
	}
	refusesText(t, "p |", api.Fault{Code: api.ErrParse, At: api.Spot{Line: 1, Col: 4, Off: 3}})
}

// TestExampleEqual is the chapter's example 2.
func TestExampleEqual(t *testing.T) {
	x, ids := readAll(t, "~~~p", "~p", "~~p", "p", "p -> q", "q")
	for _, c := range []struct {
		a, b int
		want bool
	}{{0, 1, true}, {1, 0, true}, {2, 3, false}, {3, 2, false}} {
		if is, e := heldEqual(t, x, ids[c.a], ids[c.b]); is != c.want || e != api.OK {
			t.Error(c, is, e)
		}
	}
	if a, e := heldEntails(t, x, to(ids[3], ids[4]), ids[5]); !a.Proved || e != api.OK {
		t.Error(show(a), e)
	}
}

// TestExampleTurned is the chapter's example 3.
func TestExampleTurned(t *testing.T) {
	a, _ := decide.Text("p & q -> q & p")
	for name, turned := range map[string]func(x *api.Term){
		"another name": func(x *api.Term) { x.Name = "other" },
		"a pair":       func(x *api.Term) { *x = of(api.TPair, *x, *x) },
		"too few":      func(x *api.Term) { x.Sub = nil },
		"no kind":      func(x *api.Term) { x.Kind = 13 },
	} {
		b := clone(a)
		turned(&b.Term)
		want := map[string]api.Errno{"another name": api.ErrName, "a pair": api.ErrType, "too few": api.ErrTerm, "no kind": api.ErrTerm}[name]
		holds(t, b, want)
	}
	holds(t, a, api.OK)
}

// TestReadme is what README.md shows.
func TestReadme(t *testing.T) {
	a, f := decide.Text("p & q -> q & p")
	if !a.Proved || a.Visits != 5 || f.Code != api.OK {
		t.Error(show(a), f)
	}
	x, e := formula.From(a.Rows)
	if text, _ := term.Print(x, a.Term); text != "fun h2 => let h0 = fst h2 in let h1 = snd h2 in (h1, h0)" || e != api.OK {
		t.Error(text, e)
	}
	if text, _ := syntax.Print(x, a.Form); text != "p & q -> q & p" {
		t.Error(text)
	}
	a, f = decide.Text("p | ~p")
	if text := worlds.Text(a.Model); a.Proved || text != "0 > 1 2\n1 : p\n2\n" || a.Visits != 4 || f.Code != api.OK {
		t.Error(show(a), f)
	}
	if e := decide.Holds(a); e != api.OK {
		t.Error(e)
	}
	x = formula.New()
	p, _ := x.Atom("p")
	q, _ := x.Atom("q")
	i, _ := x.Imp(p, q)
	a, e = decide.Form(x, i)
	if a.Proved || !alikeModel(a.Model, with(up(nil), "p")) || e != api.OK || x.Len() != 3 {
		t.Error(show(a), e)
	}
	a, e = decide.Entails(x, []int{p, i}, q)
	if !a.Proved || says(t, made(t, a.Rows...), a.Form) != "p -> (p -> q) -> q" || e != api.OK || x.Len() != 3 {
		t.Error(show(a), e)
	}
	n, _ := x.Not(p)
	m, _ := x.Not(n)
	k, _ := x.Not(m)
	if is, e := decide.Equal(x, k, n); !is || e != api.OK {
		t.Error(is, e)
	}
	if is, e := decide.Equal(x, m, p); is || e != api.OK {
		t.Error(is, e)
	}
}
