package interp_test

import (
	"slices"
	"testing"

	"dictum/api"
	"dictum/formula"
	"dictum/interp"
	"dictum/subst"
)

// defines tells whether a formula defines an atom, as the chapter says it: with a new atom in its place in another one.
func defines(t *testing.T, x *formula.Table, id int, name string) bool {
	t.Helper()
	x = x.Copy()
	p, _ := x.Atom(name)
	n, _ := x.Atom("anew")
	with, e := subst.Frame(x, id, name, n)
	if e != api.OK {
		t.Fatal(e)
	}
	same, _ := x.Imp(p, n)
	return proves(x, same, id, with)
}

// holdBeth is P25.3 of a formula that has the atom. It tells whether that is defined.
func holdBeth(t *testing.T, x *formula.Table, id int, name string) bool {
	t.Helper()
	rows := x.Rows()
	k, ok, e := interp.Beth(x, id, name)
	if want := defines(t, x, id, name); ok != want || e != api.OK {
		t.Fatalf("%s, %s: %v, error %d, not %v", show(x, id), name, ok, e, want)
	}
	if !ok && (k != 0 || !slices.Equal(rows, x.Rows())) {
		t.Fatalf("%s, %s: %d beside false, rows %v", show(x, id), name, k, x.Rows())
	}
	if !ok {
		return false
	}
	if x.Len() < len(rows) || !slices.Equal(rows, x.Rows()[:len(rows)]) {
		t.Fatalf("%s, %s: the rows became %v", show(x, id), name, x.Rows())
	}
	for _, other := range names(x, k) {
		if other == name || !slices.Contains(names(x, id), other) {
			t.Fatalf("%s, %s: %s", show(x, id), name, show(x, k))
		}
	}
	p, _ := x.Find(atom(name))
	if !proves(x, k, id, p) || !proves(x, p, id, k) {
		t.Fatalf("%s, %s: %s defines nothing", show(x, id), name, show(x, k))
	}
	return true
}

// TestBethByHand: P25.3, formulas of which it is known whether they define an atom.
func TestBethByHand(t *testing.T) {
	for _, c := range []struct {
		text string
		want string // beside the formula; none, if nothing is defined
	}{
		{"p", "true"},
		{"~p", "false"},
		{"p & ~p", "q & ~q"},
		{"p <-> q", "q"},
		{"p <-> q & r", "q & r"},
		{"(p <-> (q -> r)) & s", "q -> r"},
		{"p <-> ~q", "~q"},
		{"~p & q", "false"},
		{"(q -> p) & (p -> r) & (r -> q)", "r"},
		{"(q | p) & (q -> r) & (r -> p) & (p -> r)", "r"},
		{"(p -> q) & ((q -> p) | p)", "q"},
		{"(p | q) & ~(p & q)", "~q"},
		{"~~p & (p | ~p)", "true"},
		{"p | q", ""},
		{"p -> p", ""},
		{"p | ~p", ""},
		{"~~p", ""},
		{"q -> p", ""},
		{"~~(p <-> q)", ""},
		{"q -> (p <-> r)", ""},
		{"(p <-> q) | (p <-> r)", ""},
	} {
		x := formula.New()
		id := read(t, x, c.text)
		if got := holdBeth(t, x, id, "p"); got != (c.want != "") {
			t.Errorf("%s: %v", c.text, got)
		}
		if c.want == "" {
			continue
		}
		k, _, _ := interp.Beth(x, id, "p")
		want := read(t, x, c.want)
		if !proves(x, want, id, k) || !proves(x, k, id, want) {
			t.Errorf("%s: %s", c.text, show(x, k))
		}
	}
}

// TestBethSmall: P25.3, of all formulas up to the Size 5 that have the atom, of which other ones are refused.
func TestBethSmall(t *testing.T) {
	for s := 1; s <= 5; s += 2 {
		for _, f := range ofSize(s) {
			for _, name := range []string{"p", "q", "r"} {
				x := formula.New()
				id := put(t, x, f)
				if slices.Contains(names(x, id), name) {
					holdBeth(t, x, id, name)
					continue
				}
				untouched(t, x, func() {
					if k, ok, e := interp.Beth(x, id, name); k != 0 || ok || e != api.ErrAtom {
						t.Fatal(show(x, id), name, k, ok, e)
					}
				})
			}
		}
	}
}

// TestBethNine: P25.3, of formulas of the Sizes 7 and 9 by chance, in tables with other rows.
func TestBethNine(t *testing.T) {
	t.Parallel()
	chance := newChance(6)
	seven, five, three := ofSize(7), ofSize(5), ofSize(3)
	seen := map[bool]int{}
	for i := range 4000 {
		x := formula.New()
		fill(x, chance.IntN(70))
		f := seven[chance.IntN(len(seven))]
		switch i % 3 {
		case 1:
			f = &tree{kind: kinds()[chance.IntN(3)], l: five[chance.IntN(len(five))], r: three[chance.IntN(len(three))]}
		case 2:
			f = &tree{kind: kinds()[chance.IntN(3)], l: seven[chance.IntN(len(seven))], r: leaf("p")}
		}
		id := put(t, x, f)
		if size(x, id) <= 9 && x.Len() <= 100 && slices.Contains(names(x, id), "p") {
			seen[holdBeth(t, x, id, "p")]++
		}
	}
	if seen[true] < 500 || seen[false] < 500 {
		t.Error(seen)
	}
}
