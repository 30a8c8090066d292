package heyting_test

import (
	"slices"
	"testing"

	"dictum/api"
	"dictum/formula"
	"dictum/heyting"
)

// noMade are tables that no call made.
func noMade() []*formula.Table { return []*formula.Table{nil, {}, new(formula.Table)} }

// refusesPrimes asks Primes for that error.
func refusesPrimes(t *testing.T, a api.Algebra, want api.Errno) {
	t.Helper()
	if m, l, e := heyting.Primes(a); len(m.Up)+len(m.Val)+len(l) != 0 || e != want {
		t.Errorf("Primes(%s): %s, %v, error %d, not %d", show(a), showModel(m), l, e, want)
	}
}

// refusesPair asks for that error of the calls that are handed two elements.
func refusesPair(t *testing.T, a api.Algebra, x, y int, want api.Errno) {
	t.Helper()
	if z, e := heyting.Meet(a, x, y); z != 0 || e != want {
		t.Errorf("Meet(%s, %d, %d): %d, error %d, not %d", show(a), x, y, z, e, want)
	}
	if z, e := heyting.Join(a, x, y); z != 0 || e != want {
		t.Errorf("Join(%s, %d, %d): %d, error %d, not %d", show(a), x, y, z, e, want)
	}
	if z, e := heyting.Imp(a, x, y); z != 0 || e != want {
		t.Errorf("Imp(%s, %d, %d): %d, error %d, not %d", show(a), x, y, z, e, want)
	}
}

// refusesValue asks Value for that error.
func refusesValue(t *testing.T, a api.Algebra, x *formula.Table, id int, by []api.Hyp, want api.Errno) {
	t.Helper()
	if v, e := heyting.Value(a, x, id, by); v != 0 || e != want {
		t.Errorf("Value(%s, %v, %d, %v): %d, error %d, not %d", show(a), x.Rows(), id, by, v, e, want)
	}
}

// refusesAlgebra asks all calls that are handed an order that is no algebra for ErrAlgebra.
func refusesAlgebra(t *testing.T, a api.Algebra) {
	t.Helper()
	if e := heyting.Check(a); e != api.ErrAlgebra {
		t.Errorf("Check(%s): error %d", show(a), e)
	}
	if x, y, e := heyting.Bounds(a); x != 0 || y != 0 || e != api.ErrAlgebra {
		t.Errorf("Bounds(%s): %d, %d, error %d", show(a), x, y, e)
	}
	if is, e := heyting.Boolean(a); is || e != api.ErrAlgebra {
		t.Errorf("Boolean(%s): %v, error %d", show(a), is, e)
	}
	refusesPrimes(t, a, api.ErrAlgebra)
	for _, x := range to(0, 1, len(a.Leq)-1, len(a.Leq), -1) {
		refusesPair(t, a, x, 0, api.ErrAlgebra)
		refusesPair(t, a, 0, x, api.ErrAlgebra)
		refusesPair(t, a, x, x, api.ErrAlgebra)
	}
	x, _ := formula.From([]api.Node{bot(), atom("p")})
	for id := range 3 {
		refusesValue(t, a, x, id, hyps("p 0"), api.ErrAlgebra)
		refusesValue(t, a, x, id, hyps("p -1 p 0"), api.ErrAlgebra)
		refusesValue(t, a, nil, id, nil, api.ErrAlgebra)
	}
}

// refusesModel asks for that error of the calls that are handed a model.
func refusesModel(t *testing.T, m api.Model, want api.Errno) {
	t.Helper()
	unturnedModel(t, m, func() {
		if a, l, e := heyting.Ups(m); len(a.Leq)+len(l) != 0 || e != want {
			t.Errorf("Ups(%s): %s, %v, error %d, not %d", showModel(m), show(a), l, e, want)
		}
		if by, e := heyting.Atoms(m); len(by) != 0 || e != want {
			t.Errorf("Atoms(%s): %v, error %d, not %d", showModel(m), by, e, want)
		}
	})
}

// TestRefusedAlgebra: P23.1, each thing that Check asks, of all calls that are handed an algebra, ahead of whatever else is wrong.
func TestRefusedAlgebra(t *testing.T) {
	for name, a := range notOne() {
		if plainCheck(a) {
			t.Fatalf("%s: the test is wrong", name)
		}
		unturned(t, a, func() { refusesAlgebra(t, a) })
		for _, x := range noNumbers(len(a.Leq)) {
			refusesPair(t, a, x, x, api.ErrAlgebra)
		}
		if t.Failed() {
			t.Fatal(name)
		}
	}
}

// TestRefusedOrders: P23.1, the same whatever the elements' order is, of those that have few.
func TestRefusedOrders(t *testing.T) {
	chance := newChance(5)
	for name, a := range notOne() {
		many := len(a.Leq)
		if many > 16 || slices.ContainsFunc(a.Leq, func(row []bool) bool { return len(row) != many }) {
			continue
		}
		for range 20 {
			b := renamed(a, chance.Perm(many))
			if refusesAlgebra(t, b); t.Failed() {
				t.Fatal(name)
			}
		}
	}
}

// TestRefusedElements: P23.1, ErrArg of what is no element, in either place and in both.
func TestRefusedElements(t *testing.T) {
	for _, a := range []api.Algebra{row(1), row(2), subsets(2), row(64), subsets(6)} {
		for _, x := range noNumbers(len(a.Leq)) {
			if x >= 0 && x < len(a.Leq) {
				t.Fatal("the test is wrong")
			}
			refusesPair(t, a, x, 0, api.ErrArg)
			refusesPair(t, a, 0, x, api.ErrArg)
			refusesPair(t, a, x, len(a.Leq)-1, api.ErrArg)
			refusesPair(t, a, len(a.Leq)-1, x, api.ErrArg)
			refusesPair(t, a, x, x, api.ErrArg)
		}
	}
}

// TestRefusedTable: P23.3, ErrNil of a table that no call made, whatever else is wrong behind that; it stays none.
func TestRefusedTable(t *testing.T) {
	for _, x := range noMade() {
		for _, id := range append(noNumbers(0), 1, 2, 1023) {
			for _, by := range [][]api.Hyp{nil, hyps("p 0"), hyps("p 1"), hyps("p 3"), hyps("p 0 p 0")} {
				refusesValue(t, row(2), x, id, by, api.ErrNil)
			}
		}
		if _, e := x.Bot(); e != api.ErrNil {
			t.Errorf("it has become a table: error %d", e)
		}
	}
}

// TestRefusedForm: P23.3, ErrForm of a number that is no row's, ahead of what is wrong with the elements by names.
func TestRefusedForm(t *testing.T) {
	full := formula.New()
	id, _ := full.Atom("p")
	for full.Len() < api.MaxForms {
		id, _ = full.Imp(id, 0)
	}
	cut := full.Copy()
	cut.Cut(7)
	for _, x := range []*formula.Table{formula.New(), made(t, bot()), made(t, atom("p"), bot(), join(api.KImp, 0, 1)), cut, full} {
		for _, id := range append(noNumbers(x.Len()), x.Len()+2, api.MaxForms, api.MaxForms+1) {
			if _, ok := x.Node(id); ok {
				continue
			}
			for _, by := range [][]api.Hyp{nil, hyps("p 0"), hyps("p 2"), hyps("p -1"), hyps("p 0 p 0")} {
				refusesValue(t, row(2), x, id, by, api.ErrForm)
			}
		}
	}
}

// TestRefusedBy: P23.3, ErrArg of elements by names: such as are none, names that are there twice, and names that an atom has and that are missing.
func TestRefusedBy(t *testing.T) {
	x := made(t, atom("p"), bot(), join(api.KImp, 0, 1), atom("q"), join(api.KOr, 0, 3), join(api.KAnd, 1, 1), join(api.KAnd, 1, 3))
	for _, c := range []struct {
		by string
		ok []int // the rows that are taken
	}{
		{"", to(1, 5)},
		{"r 0", to(1, 5)},
		{"P 0 pp 1 p' 1", to(1, 5)},
		{"p 0", to(0, 1, 2, 5)},
		{"q 1", to(1, 3, 5, 6)},
		{"p 0 q 1", run(0, 7)},
		{"q 3 p 2", run(0, 7)},
		{"r 0 q 3 s 1 p 2 t 1", run(0, 7)},
		{"p 0 q 4", nil},
		{"p 0 q -1", nil},
		{"p 4 q 0", nil},
		{"p 0 q 0 r 4", nil},
		{"r -1 p 0 q 0", nil},
		{"p 0 q 0 p 0", nil},
		{"p 0 p 1 q 0", nil},
		{"p 0 q 0 r 0 r 0", nil},
		{"p 0 q 64", nil},
		{"p 4294967296 q 0", nil},
	} {
		for id := range 7 {
			refused := true
			for _, taken := range c.ok {
				refused = refused && taken != id
			}
			if refused {
				refusesValue(t, subsets(2), x, id, hyps(c.by), api.ErrArg)
			} else if !heldValue(t, subsets(2), x, id, hyps(c.by)) {
				t.Errorf("%q is refused", c.by)
			}
		}
	}
	// names are whatever they are
	odd := []api.Hyp{{Name: ""}, {Name: "p"}, {Name: "p q", Form: 1}, {Name: "false", Form: 1}, {Name: "\xff"}, {Name: "q", Form: 1}}
	if !heldValue(t, row(2), x, 4, odd) {
		t.Error("names that no atom has are refused")
	}
	refusesValue(t, row(2), x, 4, append(odd, api.Hyp{Name: "\xff"}), api.ErrArg)
	refusesValue(t, row(2), x, 4, append(odd, api.Hyp{Name: ""}), api.ErrArg)
}

// TestRefusedModel: P23.4, ErrModel comes first, however many up-sets there would be.
func TestRefusedModel(t *testing.T) {
	for _, m := range noModels() {
		refusesModel(t, m, api.ErrModel)
	}
}

// TestRefusedMany: P23.4, ErrMany of models that have more than 64 up-sets, of up to 512 worlds.
func TestRefusedMany(t *testing.T) {
	for _, m := range []api.Model{
		apart(7), apart(8), apart(20), apart(62), apart(63), apart(64), apart(65), apart(200), apart(512),
		line(64), line(65), line(128), line(512), turned(line(64)), turned(line(512)),
		rooted(apart(6)), turned(rooted(apart(6))), rooted(turned(rooted(apart(6)))), rooted(line(63)),
		beside(line(7), line(8)), beside(line(4), line(12)), beside(line(12), turned(line(4))), beside(line(31), line(2)), beside(line(32), apart(1)),
		beside(beside(line(3), line(3)), beside(line(1), line(2))), beside(apart(1), rooted(apart(5))),
	} {
		refusesModel(t, m, api.ErrMany)
		for w := range m.Val {
			m.Val[w] = []string{"p"}
		}
		refusesModel(t, m, api.ErrMany)
	}
}

// TestRefusedChain: P23.5, ErrArg of numbers that are not from 1 to 64.
func TestRefusedChain(t *testing.T) {
	for _, n := range append(noNumbers(65), 0, 66, 128, 1000) {
		if n > 0 && n <= 64 {
			t.Fatal("the test is wrong")
		}
		if a, e := heyting.Chain(n); len(a.Leq) != 0 || e != api.ErrArg {
			t.Errorf("Chain(%d): %s, error %d", n, show(a), e)
		}
	}
}
