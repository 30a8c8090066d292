package classical_test

import (
	"slices"
	"strconv"
	"strings"
	"testing"

	"dictum/api"
	"dictum/classical"
	"dictum/formula"
)

// TestLimitAtoms: P22.1 and P22.2, a formula of MaxAtoms atoms has a table, one of more has none; how often they stand there does not count, nor what else the table has.
func TestLimitAtoms(t *testing.T) {
	for atoms := 10; atoms <= 15; atoms++ {
		for _, sign := range []string{" & ", " | ", " -> "} {
			names := many(atoms)
			x := formula.New()
			id := read(t, x, strings.Join(slices.Repeat(names, 2), sign))
			if atoms > 12 {
				refusesTable(t, x, id, api.ErrAtoms)
				refusesEqual(t, x, id, 0, api.ErrAtoms)
				refusesEqual(t, x, id, id, api.ErrAtoms)
				continue
			}
			l, values, e := heldTable(t, x, id)
			if len(l) != atoms || len(values) != 1<<atoms || e != api.OK {
				t.Errorf("%d: %v, %d values, error %d", atoms, l, len(values), e)
			}
			heldEqual(t, x, id, id)
			heldEqual(t, x, id, 0)
		}
	}
	x := filled(t, []api.Node{atom("a"), atom("b"), imp(1, 0)}, api.MaxForms)
	if _, values, e := heldTable(t, x, 2); digits(values) != "1101" || e != api.OK {
		t.Error(values, e)
	}
}

// TestLimitEach: P22.1, row by row: the one row of 4096 in which just the atoms that a number's bits name are true.
func TestLimitEach(t *testing.T) {
	names := many(12)
	slices.Sort(names) // p10 and p11 stand behind p1
	for _, n := range to(0, 1, 2, 63, 64, 65, 1024, 2047, 2048, 4000, 4094, 4095) {
		var parts []string
		for i, name := range names {
			if n>>i&1 == 0 {
				name = "~" + name
			}
			parts = append(parts, name)
		}
		x := formula.New()
		id := read(t, x, strings.Join(parts, " & "))
		seq, e := classical.Models(x, id)
		if l := collected(t, seq); !slices.Equal(l, to(n)) || e != api.OK {
			t.Errorf("%d: %v, error %d", n, l, e)
		}
		not, _ := x.Not(id)
		if is, least, e := classical.Always(x, not); is || least != n || e != api.OK {
			t.Errorf("%d: %v, %d, error %d", n, is, least, e)
		}
		if c, e := heldDecide(t, x, not); c.Proved || !slices.Equal(c.Atoms, names) || len(c.Row) != 12 || e != api.OK {
			t.Errorf("%d: %s, error %d", n, show(c), e)
		}
	}
}

// TestLimitEqualAtoms: P22.1, of Equal the atoms of both together count, each once.
func TestLimitEqualAtoms(t *testing.T) {
	names := many(20)
	for _, c := range []struct {
		a, b []string
		want api.Errno
	}{
		{names[:6], names[6:12], api.OK},
		{names[:6], names[6:13], api.ErrAtoms},
		{names[:7], names[6:12], api.OK},
		{names[:7], names[6:13], api.ErrAtoms},
		{names[:12], names[:12], api.OK},
		{names[:12], names[3:8], api.OK},
		{names[:12], names[12:13], api.ErrAtoms},
		{names[:12], names[1:13], api.ErrAtoms},
		{names[:11], names[11:12], api.OK},
		{names[:13], names[:1], api.ErrAtoms},
		{names[:12], nil, api.OK},
		{names[:13], nil, api.ErrAtoms},
	} {
		x, ids := readAll(t, strings.Join(slices.Concat(c.a, []string{"true"}), " & "), strings.Join(slices.Concat(c.b, []string{"true"}), " & "))
		for range 2 {
			is, e := heldEqual(t, x, ids[0], ids[1])
			if is != (c.want == api.OK && slices.Equal(c.a, c.b)) || e != c.want {
				t.Errorf("%v, %v: %v, error %d, not %d", c.a, c.b, is, e, c.want)
			}
			ids[0], ids[1] = ids[1], ids[0]
		}
		if c.want == api.ErrAtoms {
			refusesEqual(t, x, ids[0], ids[1], api.ErrAtoms)
		}
	}
}

// TestLimitFull: P22.1, a formula that is made of all MaxForms rows, in all 4096 rows of its table.
func TestLimitFull(t *testing.T) {
	x := formula.New()
	for i := range 12 {
		x.Atom("a" + strconv.Itoa(i))
	}
	for i := 0; x.Len() < api.MaxForms; i++ {
		last := x.Len() - 1
		if _, e := x.Put(join(api.KAnd+api.Kind(i%5%3), last, i%12)); e != api.OK {
			t.Fatal(e)
		}
	}
	last := api.MaxForms - 1
	if names, values, e := heldTable(t, x, last); len(names) != 12 || len(values) != 4096 || e != api.OK {
		t.Error(names, len(values), e)
	}
	heldEqual(t, x, last, last-1)
	heldEqual(t, x, last, last-15)
	if is, e := classical.Equal(x, last, last); !is || e != api.OK {
		t.Error(is, e)
	}
}

// doubling has so many rows: those given and, behind them, each joined of the one ahead of it twice, so that the last one written out would never end.
func doubling(t *testing.T, rows []api.Node, k api.Kind, many int) *formula.Table {
	t.Helper()
	x := made(t, rows...)
	for x.Len() < many {
		if _, e := x.Put(join(k, x.Len()-1, x.Len()-1)); e != api.OK {
			t.Fatal(e)
		}
	}
	return x
}

// TestLimitDoubling: R1, formulas that have each part twice are gone through in a moment, and so is what is made of them, whether there is room or not.
func TestLimitDoubling(t *testing.T) {
	for kind := api.KAnd; kind <= api.KImp; kind++ {
		for _, many := range to(100, 200, 300, 339, 340, 341, 342, 343, 344, 500, 1020, 1024) {
			x := doubling(t, []api.Node{bot(), atom("p")}, kind, many)
			heldTable(t, x, many-1)
			heldEqual(t, x, many-1, 1)
			for _, k := range makings() {
				heldMade(t, k, x.Copy(), many-1)
			}
		}
	}
	x := doubling(t, []api.Node{bot(), atom("p")}, api.KAnd, api.MaxForms)
	if id, e := classical.Negations(x, api.MaxForms-1); id != api.MaxForms-1 || e != api.OK {
		t.Error(id, e)
	}
	for rows, want := range map[int]api.Errno{511: api.OK, 512: api.ErrForms} { // Not of p, an or for each and, and the whole
		x = doubling(t, []api.Node{bot(), atom("p")}, api.KAnd, rows)
		not, _ := x.Imp(rows-1, 0)
		if id, e := heldMade(t, named(t, "Negations"), x, not); e != want || e == api.OK && (id != 1022 || x.Len() != 1023) {
			t.Error(rows, id, e, x.Len())
		}
	}
}

// TestLimitDeep: R1, formulas as deep as a table has rows, on the left side and on the right one.
func TestLimitDeep(t *testing.T) {
	for kind := api.KAnd; kind <= api.KImp; kind++ {
		for _, left := range []bool{true, false} {
			for _, many := range to(200, 256, 257, 258, 400, 600, api.MaxForms) {
				x := made(t, atom("p"), bot(), atom("q"))
				for x.Len() < many {
					n := join(kind, 0, x.Len()-1)
					if left {
						n.L, n.R = n.R, n.L
					}
					x.Put(n)
				}
				heldTable(t, x, many-1)
				for _, k := range makings() {
					heldMade(t, k, x.Copy(), many-1)
				}
			}
		}
	}
}
