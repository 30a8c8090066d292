package measure_test

import (
	"slices"
	"strings"
	"testing"

	"dictum/api"
	"dictum/measure"
)

// TestAtoms: P6.3, no atoms, one, names that come several times, and names in the order of bytes, whatever their rows' order is.
func TestAtoms(t *testing.T) {
	f := made(t, []api.Node{
		bot(), join(api.KImp, 0, 0), join(api.KAnd, 1, 0), // 0, 1, 2: no atoms
		atom("q"), atom("p"), join(api.KOr, 3, 4), join(api.KImp, 5, 3), join(api.KAnd, 6, 6), // 3 .. 7
		atom("Z"), atom("a"), atom("aa"), atom("a'"), atom("a_"), atom("a0"), atom("aZ"), atom("B"), atom("a10"), atom("a2"), // 8 .. 17
	})
	chain := 8
	for id := 9; id <= 17; id++ {
		chain, _ = f.Imp(id, chain)
	}
	atoms(t, f, 0)
	atoms(t, f, 1)
	atoms(t, f, 2)
	atoms(t, f, 3, "q")
	atoms(t, f, 4, "p")
	atoms(t, f, 5, "p", "q")
	atoms(t, f, 6, "p", "q")
	atoms(t, f, 7, "p", "q")
	atoms(t, f, chain, "B", "Z", "a", "a'", "a0", "a10", "a2", "aZ", "a_", "aa")
	signs(t, f, chain, []string{"Z"}, []string{"B", "a", "a'", "a0", "a10", "a2", "aZ", "a_", "aa"})
	turned, _ := f.Imp(chain, 3)
	signs(t, f, turned, []string{"B", "a", "a'", "a0", "a10", "a2", "aZ", "a_", "aa", "q"}, []string{"Z"})
}

// TestSigns: P6.3, no atoms, and atoms on one side, on the other, and on both.
func TestSigns(t *testing.T) {
	p, q, pq := []string{"p"}, []string{"q"}, []string{"p", "q"}
	f := made(t, []api.Node{
		atom("q"), atom("p"), bot(), // 0, 1, 2
		join(api.KAnd, 0, 1), join(api.KOr, 0, 1), join(api.KImp, 0, 1), join(api.KImp, 1, 0), // 3 .. 6
		join(api.KImp, 1, 2), join(api.KImp, 7, 2), join(api.KImp, 8, 2), // 7, 8, 9: ~p, ~~p, ~~~p
		join(api.KImp, 1, 1), join(api.KOr, 1, 7), join(api.KAnd, 5, 6), join(api.KImp, 2, 2), // 10 .. 13
		join(api.KImp, 5, 0), join(api.KImp, 3, 2), join(api.KImp, 4, 13), join(api.KImp, 12, 2), join(api.KImp, 14, 14), // 14 .. 18
	})
	for id, want := range [][2][]string{
		{q, nil}, {p, nil}, {nil, nil},
		{pq, nil}, {pq, nil}, {p, q}, {q, p},
		{nil, p}, {p, nil}, {nil, p},
		{p, p}, {p, p}, {pq, pq}, {nil, nil},
		{q, p}, {nil, pq}, {nil, pq}, {pq, pq}, {pq, pq},
	} {
		signs(t, f, id, want[0], want[1])
	}
}

// TestOccurs: P6.4, a formula in itself, a part on one side, on both, several times, one that is not there, and false.
func TestOccurs(t *testing.T) {
	f := made(t, []api.Node{
		atom("p"), atom("q"), bot(), // 0, 1, 2
		join(api.KImp, 0, 1), join(api.KImp, 3, 0), join(api.KImp, 4, 0), // 3, 4, 5: Peirce's formula
		join(api.KAnd, 3, 3), join(api.KOr, 6, 3), join(api.KImp, 7, 6), // 6, 7, 8
		join(api.KImp, 2, 2), join(api.KImp, 9, 2), join(api.KImp, 10, 9), // 9, 10, 11
		join(api.KImp, 0, 0), // 12
	})
	for id := range 13 {
		occurs(t, f, id, id, 1, 0)
	}
	for _, c := range []struct{ part, id, pos, neg int }{
		{0, 3, 0, 1}, {1, 3, 1, 0}, {2, 3, 0, 0},
		{0, 4, 2, 0}, {1, 4, 0, 1}, {3, 4, 0, 1},
		{0, 5, 1, 2}, {1, 5, 1, 0}, {3, 5, 1, 0}, {4, 5, 0, 1}, {6, 5, 0, 0},
		{3, 6, 2, 0}, {0, 6, 0, 2}, {3, 7, 3, 0}, {3, 8, 2, 3}, {6, 8, 1, 1}, {0, 8, 3, 2}, {1, 8, 2, 3}, {4, 8, 0, 0},
		{2, 9, 1, 1}, {2, 10, 2, 1}, {9, 10, 0, 1}, {2, 11, 2, 3}, {9, 11, 2, 0}, {0, 11, 0, 0},
		{0, 12, 1, 1}, {5, 3, 0, 0}, {12, 0, 0, 0}, {1, 0, 0, 0}, {0, 1, 0, 0}, {0, 2, 0, 0},
	} {
		occurs(t, f, c.part, c.id, c.pos, c.neg)
	}
}

// TestNamesAreTheirOwn: R3, no two lists of an answer share memory, and no answer changes another one, nor the table.
func TestNamesAreTheirOwn(t *testing.T) {
	rows := []api.Node{atom("p"), atom("q"), join(api.KImp, 0, 1), join(api.KImp, 1, 0), join(api.KAnd, 2, 3)}
	f := made(t, rows)
	pos, neg, _ := measure.Signs(f, 4)
	all, _ := measure.Atoms(f, 4)
	for i := range pos {
		pos[i] = strings.Repeat("x", 3)
	}
	_ = append(pos[:1], "y")
	_ = append(all[:1], "z")
	if !slices.Equal(neg, []string{"p", "q"}) {
		t.Errorf("the other list: %v", neg)
	}
	signs(t, f, 4, []string{"p", "q"}, []string{"p", "q"})
	atoms(t, f, 4, "p", "q")
	if l := f.Rows(); !slices.Equal(l, rows) {
		t.Errorf("the rows: %v", l)
	}
}
