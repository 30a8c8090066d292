package classical_test

import (
	"slices"
	"testing"

	"dictum/api"
	"dictum/classical"
	"dictum/decide"
	"dictum/formula"
)

// glivenko asks that Double, Kolmogorov and Gentzen of a formula are proved just if every row makes it true, where the search ends; and answers whether it is true, and how many of the three searches ended.
func glivenko(t *testing.T, x *formula.Table, id int) (bool, int) {
	t.Helper()
	always, _, e := classical.Always(x, id)
	if e != api.OK {
		t.Fatal(e)
	}
	ended := 0
	for _, k := range makings()[:3] {
		own := x.Copy()
		form, e := k.of(own, id)
		if e != api.OK {
			continue
		}
		a, e := decide.Form(own, form)
		if e == api.ErrBudget {
			continue
		}
		if a.Proved != always && e == api.OK || e == api.ErrBig && !always {
			t.Fatalf("%s of %d of %v: %v, error %d, always %v", k.name, id, x.Rows(), a.Proved, e, always)
		}
		ended++
	}
	return always, ended
}

// TestFollowsGlivenko: P22.5 and W5, of known formulas.
func TestFollowsGlivenko(t *testing.T) {
	for _, text := range alwaysTexts() {
		x := formula.New()
		if is, ended := glivenko(t, x, read(t, x, text)); !is || ended != 3 {
			t.Errorf("%s: %v, %d", text, is, ended)
		}
	}
	for _, text := range sometimesTexts() {
		x := formula.New()
		if is, ended := glivenko(t, x, read(t, x, text)); is || ended != 3 {
			t.Errorf("%s: %v, %d", text, is, ended)
		}
	}
}

// TestFollowsGlivenkoChance: P22.5 and W5, of formulas by chance.
func TestFollowsGlivenkoChance(t *testing.T) {
	chance := newChance(5)
	always, ended, all := 0, 0, 0
	for range 500 {
		x := made(t, someRows(chance, 2+chance.IntN(25), 1+chance.IntN(15), 1+chance.IntN(4))...)
		is, many := glivenko(t, x, x.Len()-1)
		if is {
			always++
		}
		ended += many
		all += 3
	}
	if always < 60 || ended < all*3/4 {
		t.Error(always, ended, all)
	}
}

// keepsValues asks that each of the four has the formula's value in every row, as Table and Equal tell it.
func keepsValues(t *testing.T, x *formula.Table, id int) {
	t.Helper()
	names, values, e := classical.Table(x, id)
	if e != api.OK {
		t.Fatal(e)
	}
	for _, k := range makings() {
		own := x.Copy()
		form, e := k.of(own, id)
		if e != api.OK {
			t.Fatal(k.name, e)
		}
		l, v, e := classical.Table(own, form)
		if !slices.Equal(l, names) || !slices.Equal(v, values) || e != api.OK {
			t.Fatalf("%s of %d of %v: %v, %s, error %d, not %v, %s", k.name, id, x.Rows(), l, digits(v), e, names, digits(values))
		}
		if is, e := classical.Equal(own, id, form); !is || e != api.OK {
			t.Fatalf("%s of %d of %v: %v, error %d", k.name, id, x.Rows(), is, e)
		}
	}
}

// normal asks that in a formula the left part of each implication is an atom or false, and the right part false.
func normal(t *testing.T, x *formula.Table, id int) {
	t.Helper()
	below, _ := x.Below(id)
	for _, part := range below {
		n, _ := x.Node(part)
		if n.Kind != api.KImp {
			continue
		}
		l, _ := x.Node(n.L)
		r, _ := x.Node(n.R)
		if l.Kind != api.KAtom && l.Kind != api.KBot || r.Kind != api.KBot {
			t.Fatalf("%d of %v has %v", id, x.Rows(), n)
		}
	}
}

// TestFollowsValues: P22.5, what is made has the formula's values, and Negations' formula its form, of known formulas, of small ones and of some by chance.
func TestFollowsValues(t *testing.T) {
	check := func(x *formula.Table, id int) {
		keepsValues(t, x, id)
		form, e := classical.Negations(x, id)
		if e != api.OK {
			t.Fatal(e)
		}
		normal(t, x, form)
	}
	for _, text := range slices.Concat(alwaysTexts(), sometimesTexts()) {
		x := formula.New()
		check(x, read(t, x, text))
	}
	small([]api.Node{atom("b"), bot(), atom("a")}, 2, func(rows []api.Node) { check(made(t, rows...), len(rows)-1) })
	chance := newChance(6)
	for range 600 {
		x := made(t, someRows(chance, 2+chance.IntN(60), 1+chance.IntN(30), 1+chance.IntN(7))...)
		check(x, x.Len()-1-chance.IntN(min(5, x.Len())))
	}
}

// TestFollowsTwo: P22.5 and W5, of what is proved no row is false and no answer has a row, and the other way round; Decide goes with Always.
func TestFollowsTwo(t *testing.T) {
	chance := newChance(7)
	for range 300 {
		x := made(t, someRows(chance, 2+chance.IntN(30), 1+chance.IntN(15), 1+chance.IntN(4))...)
		id := x.Len() - 1
		always, least, _ := classical.Always(x, id)
		c, e := heldDecide(t, x, id)
		if e != api.OK {
			if !always {
				t.Fatalf("%v: error %d", x.Rows(), e)
			}
			continue
		}
		if c.Proved != always || always && len(c.Row)+len(c.Atoms) != 0 || !always && len(c.Rows)+c.Visits+c.Form+int(c.Term.Kind) != 0 {
			t.Fatalf("%v: %s, always %v", x.Rows(), show(c), always)
		}
		for i, value := range c.Row {
			if value != (least>>i&1 == 1) {
				t.Fatalf("%v: %s, not row %d", x.Rows(), show(c), least)
			}
		}
	}
}

// TestFollowsProved: W6, what intuitionistic logic proves is true in every row; what is equal there has the same values.
func TestFollowsProved(t *testing.T) {
	chance := newChance(8)
	proved := 0
	for range 400 {
		x := made(t, someRows(chance, 4+chance.IntN(20), 1+chance.IntN(10), 1+chance.IntN(3))...)
		id, other := x.Len()-1, chance.IntN(x.Len())
		if a, e := decide.Form(x, id); e == api.OK && a.Proved {
			proved++
			if is, _, _ := classical.Always(x, id); !is {
				t.Fatalf("%v", x.Rows())
			}
		}
		if is, e := decide.Equal(x, id, other); e == api.OK && is {
			if is, _ := classical.Equal(x, id, other); !is {
				t.Fatalf("%d of %v", other, x.Rows())
			}
		}
	}
	if proved < 40 {
		t.Error(proved)
	}
}
