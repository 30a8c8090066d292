package logics_test

import (
	"slices"
	"strconv"
	"strings"
	"testing"

	"dictum/api"
	"dictum/formula"
	"dictum/logics"
)

// axiomRows are the rows that each logic's axiom has in an empty table, the last one its own.
func axiomRows() map[logic][]api.Node {
	p, q, r := atom("p"), atom("q"), atom("r")
	return map[logic][]api.Node{
		{api.LogicCL, 0}: {p, bot(), imp(0, 1), or(0, 2)},
		{api.LogicLC, 0}: {p, q, imp(0, 1), imp(1, 0), or(2, 3)},
		{api.LogicKC, 0}: {p, bot(), imp(0, 1), imp(2, 1), or(2, 3)},
		{api.LogicKP, 0}: {p, bot(), imp(0, 1), q, r, or(3, 4), imp(2, 5), imp(2, 3), imp(2, 4), or(7, 8), imp(6, 9)},
		{api.LogicSL, 0}: {p, bot(), imp(0, 1), imp(2, 1), imp(3, 0), or(0, 2), imp(4, 5), or(2, 3), imp(6, 7)},
		{api.LogicSM, 0}: {q, bot(), imp(0, 1), p, imp(2, 3), imp(3, 0), imp(5, 3), imp(6, 3), imp(4, 7)},
		{api.LogicBD, 1}: {atom("p1"), bot(), imp(0, 1), or(0, 2)},
		{api.LogicBD, 2}: {atom("p2"), atom("p1"), bot(), imp(1, 2), or(1, 3), imp(0, 4), or(0, 5)},
		{api.LogicBD, 3}: {atom("p3"), atom("p2"), atom("p1"), bot(), imp(2, 3), or(2, 4), imp(1, 5), or(1, 6), imp(0, 7), or(0, 8)},
		{api.LogicBD, 8}: {
			atom("p8"), atom("p7"), atom("p6"), atom("p5"), atom("p4"), atom("p3"), atom("p2"), atom("p1"), bot(), imp(7, 8), or(7, 9),
			imp(6, 10), or(6, 11), imp(5, 12), or(5, 13), imp(4, 14), or(4, 15), imp(3, 16), or(3, 17), imp(2, 18), or(2, 19), imp(1, 20), or(1, 21), imp(0, 22), or(0, 23),
		},
	}
}

// heldAxiom asks for the axiom of a logic in a table, and that its rows are just those that layer 4 reads out of the text that api names.
func heldAxiom(t *testing.T, x *formula.Table, l logic) int {
	t.Helper()
	y := x.Copy()
	want := read(t, y, l.text())
	id, e := logics.Axiom(x, l.k, l.n)
	if id != want || e != api.OK || !slices.Equal(x.Rows(), y.Rows()) {
		t.Fatalf("Axiom(%v): %d, error %d, not %d, in %v, not %v", l, id, e, want, x.Rows(), y.Rows())
	}
	return id
}

// TestAxiomRows: P24.1, the axioms in an empty table, row by row.
func TestAxiomRows(t *testing.T) {
	for l, rows := range axiomRows() {
		x := formula.New()
		id, e := logics.Axiom(x, l.k, l.n)
		if id != len(rows)-1 || e != api.OK || !slices.Equal(x.Rows(), rows) {
			t.Errorf("Axiom(%v): %d, error %d, %v, not %v", l, id, e, x.Rows(), rows)
		}
	}
	for _, l := range all() {
		heldAxiom(t, formula.New(), l)
	}
}

// TestAxiomBehind: P24.1 and R9, new rows stand behind the old ones, and what is a row already is not put again, wherever it stands.
func TestAxiomBehind(t *testing.T) {
	x := made(t, bot(), atom("r"), imp(1, 0), atom("p"))
	id, e := logics.Axiom(x, api.LogicCL, 0)
	if id != 5 || e != api.OK || !slices.Equal(x.Rows()[4:], []api.Node{imp(3, 0), or(3, 4)}) {
		t.Error(id, e, x.Rows())
	}
	id, e = logics.Axiom(x, api.LogicKP, 0)
	if id != 12 || e != api.OK || !slices.Equal(x.Rows()[6:], []api.Node{atom("q"), or(6, 1), imp(4, 7), imp(4, 6), imp(4, 1), or(9, 10), imp(8, 11)}) {
		t.Error(id, e, x.Rows())
	}
	for _, l := range all() {
		was := heldAxiom(t, x, l)
		untouched(t, x, func() {
			if id, e := logics.Axiom(x, l.k, l.n); id != was || e != api.OK {
				t.Errorf("once more: %d, error %d, not %d", id, e, was)
			}
		})
	}
	chance := newChance(1)
	for range 400 {
		var rows []api.Node
		names := []string{"p", "q", "r", "p1", "p2", "p3"}
		x := made(t, append(rows, someRows(chance, 1+chance.IntN(40), 1+chance.IntN(9), names)...)...)
		for range 5 {
			heldAxiom(t, x, all()[chance.IntN(len(all()))])
		}
	}
}

// TestAxiomSome: P24.1, where some of an axiom's rows are there already, each beginning of them.
func TestAxiomSome(t *testing.T) {
	for _, l := range all() {
		whole := formula.New()
		heldAxiom(t, whole, l)
		for n := range whole.Len() + 1 {
			x := whole.Copy()
			x.Cut(n)
			heldAxiom(t, x, l)
			y := made(t, whole.Rows()[:n]...)
			y.Atom("z")
			heldAxiom(t, y, l)
		}
	}
}

// TestAxiomRoom: P24.1, ErrForms just if a row has no room; the table is as it was then. (And where there is just enough room, the axiom stands there.)
func TestAxiomRoom(t *testing.T) {
	for _, l := range all() {
		whole := formula.New()
		heldAxiom(t, whole, l)
		needs := whole.Len()
		for room := range needs + 3 {
			x := filled(t, api.MaxForms-room)
			if room >= needs {
				if id := heldAxiom(t, x, l); id != api.MaxForms-room+needs-1 {
					t.Errorf("%v with room %d: %d", l, room, id)
				}
				continue
			}
			refusesAxiom(t, x, l.k, l.n, api.ErrForms)
		}
		// some of its rows are there, and room for the others, or for one less
		for n := range needs + 1 {
			rows := whole.Rows()[:n]
			heldAxiom(t, filled(t, api.MaxForms-needs+n, rows...), l)
			if n < needs {
				refusesAxiom(t, filled(t, api.MaxForms-needs+n+1, rows...), l.k, l.n, api.ErrForms)
				refusesAxiom(t, filled(t, api.MaxForms, rows...), l.k, l.n, api.ErrForms)
			}
		}
	}
}

// TestAxiomAfter: P24.1, a table that has refused an axiom takes what there is room for, with the numbers that are next.
func TestAxiomAfter(t *testing.T) {
	x := filled(t, api.MaxForms-4)
	refusesAxiom(t, x, api.LogicKC, 0, api.ErrForms)
	refusesAxiom(t, x, api.LogicBD, 2, api.ErrForms)
	if id, e := logics.Axiom(x, api.LogicCL, 0); id != api.MaxForms-1 || e != api.OK {
		t.Error(id, e)
	}
	if n, _ := x.Node(api.MaxForms - 4); n != atom("p") {
		t.Error(n)
	}
	refusesAxiom(t, x, api.LogicKC, 0, api.ErrForms)
	if id, e := logics.Axiom(x, api.LogicCL, 0); id != api.MaxForms-1 || e != api.OK {
		t.Error(id, e)
	}
}

// TestAxiomInstead: P24.1, a full table without an axiom's atoms refuses it, whatever it has beside: also where row 0 stands in their place in another formula.
func TestAxiomInstead(t *testing.T) {
	for _, l := range all() {
		text := l.text()
		for _, name := range []string{"p1", "p2", "p3", "p4", "p5", "p6", "p7", "p8", "p", "q", "r"} {
			text = strings.ReplaceAll(text, name, "z")
		}
		x := formula.New()
		read(t, x, text)
		refusesAxiom(t, filled(t, api.MaxForms, x.Rows()...), l.k, l.n, api.ErrForms)
		z := made(t, atom("z"))
		for _, more := range []string{"z & z", "z | z", "z -> z", "~z", "~~z", "z | ~z", "~z | ~~z", text} {
			read(t, z, more)
		}
		refusesAxiom(t, filled(t, api.MaxForms, z.Rows()...), l.k, l.n, api.ErrForms)
	}
}

// TestAxiomNames: P24.1, the atoms of BDn are those named p and the number, from 1 to n.
func TestAxiomNames(t *testing.T) {
	for n := 1; n <= 8; n++ {
		x := formula.New()
		logics.Axiom(x, api.LogicBD, n)
		for i := range 10 {
			_, is := x.Find(atom("p" + strconv.Itoa(i)))
			if is != (i >= 1 && i <= n) {
				t.Errorf("BD%d: p%d is %v", n, i, is)
			}
		}
		if _, is := x.Find(atom("p")); is {
			t.Errorf("BD%d has p", n)
		}
	}
}
