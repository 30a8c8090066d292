package classical_test

import (
	"slices"
	"strings"
	"testing"

	"dictum/api"
	"dictum/classical"
	"dictum/decide"
	"dictum/formula"
	"dictum/term"
)

// TestDecideKnown: P22.2, formulas that every row makes true are answered with a term, others with a row.
func TestDecideKnown(t *testing.T) {
	for _, text := range alwaysTexts() {
		x := formula.New()
		id := read(t, x, text)
		c, e := heldDecide(t, x, id)
		if !c.Proved || e != api.OK {
			t.Fatalf("%s: %s, error %d", text, show(c), e)
		}
		if got := says(t, made(t, c.Rows...), c.Form); got != "~~("+text+")" && !strings.Contains(text, "<->") && text != "true" {
			t.Errorf("%s: %s", text, got)
		}
	}
	for _, text := range sometimesTexts() {
		x := formula.New()
		if c, e := heldDecide(t, x, read(t, x, text)); c.Proved || e != api.OK {
			t.Errorf("%s: %s, error %d", text, show(c), e)
		}
	}
}

// TestDecideRows: P22.2, the least row that is false, atom by atom, and nothing beside it.
func TestDecideRows(t *testing.T) {
	for text, want := range map[string]string{
		"p": "p 0", "~p": "p 1", "false": " ", "~true": " ", "p & ~p": "p 0", "p -> q": "p q 10", "q -> p": "p q 01", "~(p & q)": "p q 11", "p | q": "p q 00",
		"p & q -> r": "p q r 110", "r -> q | p": "p q r 001", "~(p & r) | q": "p q r 101", "b & ~B -> a": "B a b 001", "p' -> p0 | p": "p p' p0 010", "(p -> p) -> false": "p 0",
	} {
		x := formula.New()
		c, e := heldDecide(t, x, read(t, x, text))
		if got := strings.Join(append(c.Atoms, digits(c.Row)), " "); got != strings.TrimPrefix(want, " ") || e != api.OK {
			t.Errorf("%s: %s, error %d, not %s", text, show(c), e, want)
		}
		if !alike(c, api.Classic{Atoms: c.Atoms, Row: c.Row}) {
			t.Errorf("%s: %s", text, show(c))
		}
	}
}

// TestDecideTerms: P22.2, terms, forms, rows and visits written out.
func TestDecideTerms(t *testing.T) {
	x := made(t, atom("p"), imp(0, 0))
	c, e := heldDecide(t, x, 1)
	if !slices.Equal(c.Rows, []api.Node{atom("p"), imp(0, 0), bot(), imp(1, 2), imp(3, 2), imp(0, 2)}) || c.Form != 4 || c.Visits != 5 || e != api.OK {
		t.Errorf("%s, rows %v, error %d", show(c), c.Rows, e)
	}
	if text, _ := term.Print(made(t, c.Rows...), c.Term); text != "fun h3 => let h2 = h3 (let h5 = (fun h0 => h3 (fun h0 => h0) : ~p) in fun h0 => h0) in abort h2" {
		t.Error(text)
	}
	x = made(t, bot(), imp(0, 0))
	c, e = heldDecide(t, x, 1)
	if !slices.Equal(c.Rows, []api.Node{bot(), imp(0, 0), imp(1, 0), imp(2, 0)}) || c.Form != 3 || e != api.OK {
		t.Errorf("%s, rows %v, error %d", show(c), c.Rows, e)
	}
}

// TestDecideThere: P22.2, where the double negation is a row already, it is that one, behind which the search's rows stand.
func TestDecideThere(t *testing.T) {
	x, ids := readAll(t, "~~(p | ~p)", "p | ~p", "q")
	rows := x.Len()
	c, e := heldDecide(t, x, ids[1])
	if c.Form != ids[0] || !c.Proved || e != api.OK {
		t.Errorf("%s, error %d", show(c), e)
	}
	a, _ := decide.Form(x, ids[0])
	if !slices.Equal(c.Rows, a.Rows) || c.Visits != a.Visits || !alikeTerm(c.Term, a.Term) || len(c.Rows) <= rows {
		t.Errorf("%s, rows %v", show(c), c.Rows)
	}
}

// TestDecideSmall: P22.2, all formulas of a table that has all small ones.
func TestDecideSmall(t *testing.T) {
	x := made(t, atom("p"), bot())
	for few := 2; x.Len() < 300; few = x.Len() {
		for a := range few {
			for b := range few {
				for k := api.KAnd; k <= api.KImp; k++ {
					x.Put(join(k, a, b))
				}
			}
		}
	}
	proved := 0
	for id := range x.Len() {
		if c, e := heldDecide(t, x, id); e != api.OK {
			t.Error(id, e)
		} else if c.Proved {
			proved++
		}
	}
	if proved < 100 || x.Len()-proved < 100 {
		t.Errorf("%d of %d are proved", proved, x.Len())
	}
}

// TestDecideChance: P22.2, formulas by chance.
func TestDecideChance(t *testing.T) {
	chance := newChance(3)
	got := map[api.Errno]int{}
	proved := 0
	for range 1000 {
		x := made(t, someRows(chance, 2+chance.IntN(50), 1+chance.IntN(20), 1+chance.IntN(5))...)
		c, e := heldDecide(t, x, x.Len()-1-chance.IntN(min(5, x.Len())))
		got[e]++
		if c.Proved {
			proved++
		}
	}
	if proved < 100 || got[api.OK]-proved < 300 {
		t.Error(proved, got)
	}
}

// TestDecideRoom: P22.2, tables in which the double negation has no room, or what the search needs besides: ErrBudget; with as much room as there must be the formula is decided. A row that is false needs none.
func TestDecideRoom(t *testing.T) {
	for _, text := range []string{"p -> p", "p | ~p", "true", "(p & q -> r) | ~r", "((p -> q) -> p) -> p", "false -> p", "~p -> ~p"} {
		x := formula.New()
		id := read(t, x, text)
		want, _ := classical.Decide(x, id)
		need := len(want.Rows) - x.Len()
		if need < 2 {
			t.Errorf("%s makes %d rows", text, need)
		}
		for room := range need + 2 {
			full := filled(t, x.Rows(), api.MaxForms-room)
			if room < need {
				refusesDecide(t, full, id, api.ErrBudget)
			}
			if c, e := heldDecide(t, full, id); e == api.OK && (c.Visits != want.Visits || len(c.Rows) != api.MaxForms-room+need) || (e == api.OK) != (room >= need) {
				t.Errorf("%s with room for %d: %s, error %d", text, room, show(c), e)
			}
		}
		if c, e := heldDecide(t, filled(t, want.Rows, api.MaxForms), id); !c.Proved || c.Form != want.Form || e != api.OK {
			t.Errorf("%s with all rows: %s, error %d", text, show(c), e)
		}
	}
	for _, text := range sometimesTexts() {
		x := formula.New()
		id := read(t, x, text)
		if c, e := heldDecide(t, filled(t, x.Rows(), api.MaxForms), id); c.Proved || e != api.OK {
			t.Errorf("%s of a full table: %s, error %d", text, show(c), e)
		}
	}
}

// TestDecideBudget: P22.2, what layer 21 refuses with ErrBudget is refused, though every row is true.
func TestDecideBudget(t *testing.T) {
	for atoms, want := range map[int]api.Errno{1: api.OK, 8: api.OK, 9: api.OK, 10: api.ErrBudget, 12: api.ErrBudget} {
		x := formula.New()
		id := read(t, x, excluded(atoms))
		heldTable(t, x, id)
		if c, e := heldDecide(t, x, id); c.Proved != (want == api.OK) || e != want {
			t.Errorf("%d: %s, error %d, not %d", atoms, show(c), e, want)
		}
	}
	x, ids := readAll(t, excluded(12), excluded(12)+" & (p0 & ~p0 | p11)")
	refusesDecide(t, x, ids[0], api.ErrBudget)
	if c, e := heldDecide(t, x, ids[1]); len(c.Row) != 12 || slices.Contains(c.Row, true) || e != api.OK {
		t.Errorf("%s, error %d", show(c), e)
	}
}

// sized is the number of a formula, put into the table with its parts, that is proved by a term of so many nodes, from 2 on.
func sized(t *testing.T, x *formula.Table, many int) int {
	t.Helper()
	if many == 2 {
		return read(t, x, "v -> v")
	}
	var id int
	var e api.Errno
	if half := (many - 1) / 2; many%2 == 1 && half >= 2 {
		part := sized(t, x, half)
		id, e = x.And(part, part)
	} else {
		id, e = x.Imp(read(t, x, "w"), sized(t, x, many-1))
	}
	if e != api.OK {
		t.Fatal(e)
	}
	return id
}

// TestDecideBig: P22.2, what layer 21 refuses with ErrBig is refused: a term of too many nodes, and one of too many levels.
func TestDecideBig(t *testing.T) {
	got := map[api.Errno]int{}
	for many := 64000; many <= 66000; many += 50 {
		x := formula.New()
		c, e := heldDecide(t, x, sized(t, x, many))
		if got[e]++; e == api.OK && term.Size(c.Term) <= many {
			t.Errorf("%d: %s", many, show(c))
		}
	}
	if got[api.OK] < 5 || got[api.ErrBig] < 5 || len(got) != 2 {
		t.Error(got)
	}
	x := formula.New()
	refusesDecide(t, x, sized(t, x, 1<<40), api.ErrBig)
	clear(got)
	for many := 500; many <= 515; many++ {
		x, id := made(t, atom("p")), 0
		for range many {
			id, _ = x.And(id, id)
		}
		id, _ = x.Imp(id, 0)
		c, e := heldDecide(t, x, id)
		if got[e]++; e == api.OK && term.Deep(c.Term) <= 2*many {
			t.Errorf("%d: %s", many, show(c))
		}
	}
	if got[api.OK] < 5 || got[api.ErrBig] < 5 || len(got) != 2 {
		t.Error(got)
	}
}
