package logics_test

import (
	"math"
	"testing"

	"dictum/api"
	"dictum/formula"
	"dictum/logics"
)

// noMade are tables that no call made.
func noMade() []*formula.Table { return []*formula.Table{nil, {}, new(formula.Table)} }

// noLogics are logics that are none, or have another number.
func noLogics() []logic {
	var l []logic
	for _, n := range noNumbers(1, 0) {
		if n < 0 || n > 8 {
			l = append(l, logic{api.LogicBD, n})
		}
		for k := api.LogicCL; k <= api.LogicSM; k++ {
			if k != api.LogicBD && n != 0 {
				l = append(l, logic{k, n})
			}
		}
	}
	l = append(l, logic{api.LogicBD, 0}, logic{api.LogicBD, 9})
	for _, k := range []api.Logic{math.MinInt, -7, -1, 0, 8, 9, 64, 1 << 32, 1<<32 + 1, math.MaxInt} {
		for _, n := range to(-1, 0, 1, 2, 8, 9) {
			l = append(l, logic{k, n})
		}
	}
	return l
}

func refusesAxiom(t *testing.T, x *formula.Table, k api.Logic, n int, want api.Errno) {
	t.Helper()
	untouched(t, x, func() {
		if id, e := logics.Axiom(x, k, n); id != 0 || e != want {
			t.Errorf("Axiom(%d rows, %d, %d): %d, error %d, not %d", x.Len(), k, n, id, e, want)
		}
	})
}

func refusesFits(t *testing.T, m api.Model, k api.Logic, n int, want api.Errno) {
	t.Helper()
	unturned(t, m, func() {
		if is, e := logics.Fits(m, k, n); is || e != want {
			t.Errorf("Fits(%s, %d, %d): %v, error %d, not %d", show(m), k, n, is, e, want)
		}
	})
}

func refusesValue(t *testing.T, x *formula.Table, id, n int, by []api.Hyp, want api.Errno) {
	t.Helper()
	untouched(t, x, func() {
		if v, e := logics.Value(x, id, n, by); v != 0 || e != want {
			t.Errorf("Value(%v, %d, %d, %v): %d, error %d, not %d", x.Rows(), id, n, by, v, e, want)
		}
	})
}

func refusesDummett(t *testing.T, x *formula.Table, id int, want api.Errno) {
	t.Helper()
	untouched(t, x, func() {
		if is, by, e := logics.Dummett(x, id); is || len(by) != 0 || e != want {
			t.Errorf("Dummett(%d rows, %d): %v, %v, error %d, not %d", x.Len(), id, is, by, e, want)
		}
	})
}

func refusesModel(t *testing.T, n int, by []api.Hyp, want api.Errno) {
	t.Helper()
	if m, e := logics.Model(n, by); len(m.Up)+len(m.Val) != 0 || e != want {
		t.Errorf("Model(%d, %v): %s, error %d, not %d", n, by, show(m), e, want)
	}
}

func refusesReduce(t *testing.T, x *formula.Table, id int, want api.Errno) {
	t.Helper()
	untouched(t, x, func() {
		if r, e := logics.Reduce(x, id); r != 0 || e != want {
			t.Errorf("Reduce(%d rows, %d): %d, error %d, not %d", x.Len(), id, r, e, want)
		}
	})
}

// TestRefusedTable: ErrNil of a table that no call made, whatever else is wrong; it stays none.
func TestRefusedTable(t *testing.T) {
	for _, x := range noMade() {
		for _, l := range append(noLogics(), all()...) {
			refusesAxiom(t, x, l.k, l.n, api.ErrNil)
		}
		for _, id := range append(noNumbers(0, -1), 0, 1023) {
			for _, n := range to(-1, 0, 1, 64, 65) {
				for _, by := range [][]api.Hyp{nil, hyps("p 0"), hyps("p 99"), hyps("p 0 p 0")} {
					refusesValue(t, x, id, n, by, api.ErrNil)
				}
			}
			refusesDummett(t, x, id, api.ErrNil)
			refusesReduce(t, x, id, api.ErrNil)
		}
		if _, e := x.Bot(); e != api.ErrNil {
			t.Errorf("it has become a table: error %d", e)
		}
	}
}

// TestRefusedLogic: P24.1 and P24.2, ErrLogic of what is none of the seven and of numbers that a logic has not, also where a table has no room; of Fits of LogicSL, too.
func TestRefusedLogic(t *testing.T) {
	full := filled(t, api.MaxForms)
	for _, l := range noLogics() {
		refusesAxiom(t, formula.New(), l.k, l.n, api.ErrLogic)
		refusesAxiom(t, made(t, atom("p"), bot()), l.k, l.n, api.ErrLogic)
		refusesAxiom(t, full, l.k, l.n, api.ErrLogic)
		refusesFits(t, apart(1), l.k, l.n, api.ErrLogic)
		refusesFits(t, with(up(to(1, 2), nil, nil), "", "p", ""), l.k, l.n, api.ErrLogic)
	}
	for _, n := range append(noNumbers(1, 0), 3, 8) {
		refusesFits(t, apart(1), api.LogicSL, n, api.ErrLogic)
		refusesFits(t, line(3), api.LogicSL, n, api.ErrLogic)
	}
	for _, l := range all() {
		if _, e := logics.Axiom(formula.New(), l.k, l.n); e != api.OK {
			t.Errorf("Axiom(%v): error %d", l, e)
		}
		refusesAxiom(t, full, l.k, l.n, api.ErrForms)
	}
	for _, l := range ordered() {
		if _, e := logics.Fits(apart(1), l.k, l.n); e != api.OK {
			t.Errorf("Fits(%v): error %d", l, e)
		}
	}
}

// TestRefusedFrame: P24.2, ErrModel of what is not well-formed (what is true in its worlds included) comes first.
func TestRefusedFrame(t *testing.T) {
	for _, m := range noModels() {
		for _, l := range append(noLogics(), all()...) {
			refusesFits(t, m, l.k, l.n, api.ErrModel)
		}
	}
}

// TestRefusedForm: ErrForm of a number that is no row's, ahead of what is wrong with truth values, of how many atoms there are and of room.
func TestRefusedForm(t *testing.T) {
	full := filled(t, api.MaxForms)
	cut := full.Copy()
	cut.Cut(7)
	for _, x := range []*formula.Table{formula.New(), made(t, bot()), made(t, atom("p"), bot(), imp(0, 1)), cut, full} {
		for _, id := range append(noNumbers(0, x.Len()-1), x.Len(), x.Len()+2, api.MaxForms, api.MaxForms+1) {
			for _, n := range to(-1, 0, 1, 64, 65) {
				for _, by := range [][]api.Hyp{nil, hyps("p 0"), hyps("p 99"), hyps("p -1"), hyps("p 0 p 0")} {
					refusesValue(t, x, id, n, by, api.ErrForm)
				}
			}
			refusesDummett(t, x, id, api.ErrForm)
			refusesReduce(t, x, id, api.ErrForm)
		}
	}
}

// TestRefusedTruth: P24.3 and P24.5, ErrArg of a greatest truth value that is not from 1 to 64, whatever the others are.
func TestRefusedTruth(t *testing.T) {
	x := made(t, atom("p"), bot())
	for _, n := range noNumbers(1, 64) {
		for _, by := range [][]api.Hyp{nil, hyps("p 0"), hyps("p 1"), hyps("1 0")} {
			for id := range 2 {
				refusesValue(t, x, id, n, by, api.ErrArg)
			}
			refusesModel(t, n, by, api.ErrArg)
		}
		refusesModel(t, n, []api.Hyp{{Name: "p", Form: n}}, api.ErrArg)
	}
	for n := 1; n <= 64; n++ {
		if _, e := logics.Value(x, 0, n, hyps("p 1")); e != api.OK {
			t.Errorf("Value with %d: error %d", n, e)
		}
		if _, e := logics.Model(n, hyps("p 1")); e != api.OK {
			t.Errorf("Model with %d: error %d", n, e)
		}
	}
}

// TestRefusedBy: P24.3, ErrArg of truth values by names: such as are none, names that are there twice, and names that an atom has and that are missing. A name that no atom has may be any.
func TestRefusedBy(t *testing.T) {
	x := made(t, atom("p"), bot(), imp(0, 1), atom("q"), or(0, 3), and(1, 1), and(1, 3))
	for _, c := range []struct {
		by string
		ok []int // the rows that are taken
	}{
		{"", to(1, 5)},
		{"r 0", to(1, 5)},
		{"P 0 pp 1 p' 3", to(1, 5)},
		{"p 0", to(0, 1, 2, 5)},
		{"q 1", to(1, 3, 5, 6)},
		{"p 0 q 1", run(0, 7)},
		{"q 3 p 3", run(0, 7)},
		{"r 0 q 3 s 1 p 2 t 1", run(0, 7)},
		{"1 0 q 3 false 1 p 2 p; 1", run(0, 7)},
		{"p 0 q 4", nil},
		{"p 4 q 0", nil},
		{"p 0 q -1", nil},
		{"p -1 q 0", nil},
		{"p 0 q 0 r 4", nil},
		{"r -1 p 0 q 0", nil},
		{"p 0 q 0 p 0", nil},
		{"p 0 p 1 q 0", nil},
		{"q 0 q 1 p 0", nil},
		{"p 0 q 0 r 0 r 0", nil},
		{"r 1 p 0 q 0 r 0", nil},
		{"p 0 q 64", nil},
		{"p 0 q 4294967296", nil},
		{"p 0 q -4294967296", nil},
	} {
		for id := range 7 {
			refused := true
			for _, taken := range c.ok {
				refused = refused && taken != id
			}
			if refused {
				refusesValue(t, x, id, 3, hyps(c.by), api.ErrArg)
			} else {
				heldValue(t, x, id, 3, hyps(c.by))
			}
		}
	}
	odd := []api.Hyp{{Name: ""}, {Name: "p"}, {Name: "p q", Form: 1}, {Name: "false", Form: 1}, {Name: "\xff"}, {Name: "q", Form: 1}}
	heldValue(t, x, 4, 1, odd)
	refusesValue(t, x, 4, 1, append(odd, api.Hyp{Name: "\xff"}), api.ErrArg)
	refusesValue(t, x, 4, 1, append(odd, api.Hyp{Name: ""}), api.ErrArg)
}

// TestRefusedModel: P24.5, ErrArg of truth values that are none and of names that are there twice, wherever they stand, ahead of ErrAtom of names that are none.
func TestRefusedModel(t *testing.T) {
	for _, c := range []struct {
		by   []api.Hyp
		want api.Errno
	}{
		{hyps("p 4"), api.ErrArg},
		{hyps("p -1"), api.ErrArg},
		{hyps("p 0 p 0"), api.ErrArg},
		{hyps("p 0 q 1 p 2"), api.ErrArg},
		{hyps("p 0 q 1 r 4"), api.ErrArg},
		{hyps("p 4294967297"), api.ErrArg},
		{hyps("1 4"), api.ErrArg},
		{hyps("1 0 p -1"), api.ErrArg},
		{hyps("p -1 1 0"), api.ErrArg},
		{hyps("1 0 1 0"), api.ErrArg},
		{hyps("1 0 p 0 p 0"), api.ErrArg},
		{hyps("p 0 p 0 1 0"), api.ErrArg},
		{hyps("1 0"), api.ErrAtom},
		{hyps("1 3"), api.ErrAtom},
		{hyps("p 1 false 0"), api.ErrAtom},
		{hyps("in 1 p 0"), api.ErrAtom},
		{hyps("p 1 q, 0 r 2"), api.ErrAtom},
		{hyps("_p 1"), api.ErrAtom},
		{[]api.Hyp{{}}, api.ErrAtom},
		{[]api.Hyp{{Name: "p", Form: 1}, {}}, api.ErrAtom},
		{[]api.Hyp{{Name: "p q"}}, api.ErrAtom},
		{[]api.Hyp{{Name: "\xff"}}, api.ErrAtom},
		{[]api.Hyp{{Name: "p\n"}}, api.ErrAtom},
		{[]api.Hyp{{Name: "abcdefghijklmnopqrstuvwxyz123456"}}, api.ErrAtom}, // 32 bytes
		{[]api.Hyp{{}, {}}, api.ErrArg},
	} {
		refusesModel(t, 3, c.by, c.want)
		for _, n := range to(0, 65) {
			refusesModel(t, n, c.by, api.ErrArg)
		}
	}
}

// TestRefusedAtoms: P24.4, ErrAtoms of a formula of more than five atoms, however it is made.
func TestRefusedAtoms(t *testing.T) {
	for _, text := range []string{"a & b & c & d & e & f", "a | b | c | d | e | f", "a -> b -> c -> d -> e -> f", "~a & (b | ~c) -> (a -> d & e | f) | a", "p1 & p2 & p3 & p4 & p5 & p6 & p7"} {
		x := formula.New()
		refusesDummett(t, x, read(t, x, text), api.ErrAtoms)
	}
	for n := 6; n <= 8; n++ {
		x := formula.New()
		id, _ := logics.Axiom(x, api.LogicBD, n)
		refusesDummett(t, x, id, api.ErrAtoms)
	}
}
