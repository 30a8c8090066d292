package decide_test

import (
	"slices"
	"strconv"
	"strings"
	"testing"

	"dictum/api"
	"dictum/decide"
	"dictum/formula"
	"dictum/search"
	"dictum/syntax"
	"dictum/term"
)

// splits is a formula that is proved in 4 * 2^many + many - 1 sequents: so many disjunctions are split, and each leaf needs three sequents. Its atoms' names end in end.
func splits(many int, end string) string {
	goal := "(x -> x) | y" + end
	for i := range many {
		n := strconv.Itoa(i) + end
		goal = "q" + n + " | r" + n + " -> (" + goal + ")"
	}
	return goal
}

// hard is a formula that no search within the budget decides.
func hard() string { return splits(14, "h") }

// visited is a formula that is proved in so many sequents, as long as these are some thousand.
func visited(many int) string {
	var parts []string
	for size := 9; size > 4; size-- {
		parts = append(parts, "("+splits(size, "s"+strconv.Itoa(size))+")")
		many -= 4<<size + size - 1
	}
	many -= len(parts) - 1 // of k parts joined by & there are k - 1 sequents
	return strings.Repeat("t -> ", many) + "(" + strings.Join(parts, " & ") + ")"
}

// sized is the number of a formula, put into the table with its parts, that is proved by a term of so many nodes, from 2 on.
func sized(t *testing.T, x *formula.Table, many int) int {
	t.Helper()
	if many == 2 {
		return read(t, x, "v -> v")
	}
	var id int
	var e api.Errno
	if half := (many - 1) / 2; many%2 == 1 && half >= 2 {
		part := sized(t, x, half)
		id, e = x.And(part, part)
	} else {
		id, e = x.Imp(read(t, x, "w"), sized(t, x, many-1))
	}
	if e != api.OK {
		t.Fatal(e)
	}
	return id
}

// TestLimitVisits: P21.1 and P21.2, a search that enters just MaxVisits sequents is answered, and one that would enter one more is ErrBudget.
func TestLimitVisits(t *testing.T) {
	for _, many := range to(4094, 4095, 4096) {
		text := visited(many)
		a, f := heldText(t, text)
		if !a.Proved || a.Visits != many || f != (api.Fault{}) {
			t.Errorf("%s, fault %v, not %d visits", show(a), f, many)
		}
		x := formula.New()
		if b, e := heldForm(t, x, read(t, x, text)); !alike(a, b) || e != api.OK {
			t.Errorf("%s, error %d", show(b), e)
		}
	}
	for _, many := range to(4097, 4098, 4110) {
		text := visited(many)
		refusesText(t, text, api.Fault{Code: api.ErrBudget})
		x := formula.New()
		refusesForm(t, x, read(t, x, text), api.ErrBudget)
	}
	refusesText(t, hard(), api.Fault{Code: api.ErrBudget})
}

// TestLimitVisitsEntails: P21.3, what is put ahead of the search counts in it.
func TestLimitVisitsEntails(t *testing.T) {
	x, ids := readAll(t, visited(4090), "z")
	for many := range 7 {
		a, e := heldEntails(t, x, slices.Repeat(to(ids[1]), many), ids[0])
		if !a.Proved || a.Visits != 4090+many || e != api.OK {
			t.Errorf("%d: %s, error %d", many, show(a), e)
		}
	}
	refusesEntails(t, x, slices.Repeat(to(ids[1]), 7), ids[0], api.ErrBudget)
	x, ids = readAll(t, visited(4095), "z")
	for _, l := range [][]int{{0, 1}, {1, 0}} {
		if is, e := heldEqual(t, x, ids[l[0]], ids[l[1]]); is || e != api.OK {
			t.Error(is, e)
		}
	}
	x, ids = readAll(t, visited(4096), "z")
	refusesEqual(t, x, ids[0], ids[1], api.ErrBudget)
	refusesEqual(t, x, ids[1], ids[0], api.ErrBudget)
}

// TestLimitNodes: P21.1, a term of just MaxTerm nodes is told, and one of more is ErrBig.
func TestLimitNodes(t *testing.T) {
	for _, many := range to(2, 3, 4, 5, 6, 7, 1000, 65535, 65536) {
		x := formula.New()
		a, e := heldForm(t, x, sized(t, x, many))
		if !a.Proved || term.Size(a.Term) != many || e != api.OK {
			t.Errorf("%d: %s, error %d", many, show(a), e)
		}
	}
	for _, many := range to(65537, 65538, 65539, 1<<17, 1<<20, 1<<40) {
		x := formula.New()
		refusesForm(t, x, sized(t, x, many), api.ErrBig)
	}
}

// deep is a formula of a table of its own whose term has that many more levels than four, three of them of p & p on the left.
func deep(t *testing.T, many int) (*formula.Table, int) {
	t.Helper()
	x := made(t, atom("p"), join(api.KAnd, 0, 0))
	id := 0
	for range many {
		id, _ = x.Imp(0, id)
	}
	id, e := x.Imp(1, id)
	if e != api.OK {
		t.Fatal(e)
	}
	return x, id
}

// TestLimitLevels: P21.1, a term of just MaxDeep levels is told, and one of more is ErrBig.
func TestLimitLevels(t *testing.T) {
	for many := 1015; many <= 1021; many++ {
		x, id := deep(t, many)
		if many+4 > 1024 {
			refusesForm(t, x, id, api.ErrBig)
			continue
		}
		a, e := heldForm(t, x, id)
		if !a.Proved || term.Deep(a.Term) != many+4 || e != api.OK {
			t.Errorf("%d: %s, error %d", many, show(a), e)
		}
	}
}

// TestLimitTextTerm: P21.2, terms of texts that are too large: by nodes, and by levels.
func TestLimitTextTerm(t *testing.T) {
	doubled := func(many int) string { // each p | p is split into two cases of the same term
		s := "x | (y -> y)"
		for i := range many {
			p := "p" + strconv.Itoa(i)
			s = p + " | " + p + " -> (" + s + ")"
		}
		return s
	}
	if a, f := heldText(t, doubled(13)); !a.Proved || term.Size(a.Term) != 5<<13-2+13 || f != (api.Fault{}) {
		t.Error(show(a), f)
	}
	for many := 14; many < 60; many += 5 {
		refusesText(t, doubled(many), api.Fault{Code: api.ErrBig})
	}
	if a, f := heldText(t, strings.Repeat("~", 508)+"true"); !a.Proved || term.Deep(a.Term) != 1021 || f != (api.Fault{}) {
		t.Error(show(a), f)
	}
	refusesText(t, strings.Repeat("~", 510)+"true", api.Fault{Code: api.ErrBig})
}

// wide is the text of a formula whose model has 256 worlds and, for each p, two more; or one more, where that p stands there already.
func wide(many int, more string) string {
	var s string
	for i := range 8 {
		s += "~~a" + strconv.Itoa(i) + " -> "
	}
	s = "(" + s + "b)"
	for i := range many {
		s += " | p" + strconv.Itoa(i)
	}
	return s + more
}

// TestLimitWorlds: P21.1 and P21.2, a model of just MaxWorlds worlds is told, and one of more is ErrBig.
func TestLimitWorlds(t *testing.T) {
	for text, want := range map[string]int{wide(0, ""): 256, wide(127, ""): 510, wide(127, " | p0"): 511, wide(128, ""): 512, wide(127, " | p0 | p1"): 512} {
		a, f := heldText(t, text)
		if a.Proved || len(a.Model.Up) != want || f != (api.Fault{}) {
			t.Errorf("%s, fault %v, not %d worlds", show(a), f, want)
		}
		x := formula.New()
		if b, e := heldForm(t, x, read(t, x, text)); !alike(a, b) || e != api.OK {
			t.Errorf("%s, error %d", show(b), e)
		}
	}
	for _, text := range []string{wide(128, " | p0"), wide(129, ""), wide(200, "")} {
		refusesText(t, text, api.Fault{Code: api.ErrBig})
		x := formula.New()
		refusesForm(t, x, read(t, x, text), api.ErrBig)
	}
	x := made(t, atom("p0")) // a table has room for more than a text has
	id := 0
	for i := 1; i < 256; i++ {
		p, _ := x.Atom("p" + strconv.Itoa(i))
		id, _ = x.Or(id, p)
	}
	if a, e := heldForm(t, x, id); a.Proved || len(a.Model.Up) != 511 || e != api.OK {
		t.Error(show(a), e)
	}
	id, _ = x.Or(id, 0)
	if a, e := heldForm(t, x, id); a.Proved || len(a.Model.Up) != 512 || e != api.OK {
		t.Error(show(a), e)
	}
	id, _ = x.Or(id, 0)
	refusesForm(t, x, id, api.ErrBig)
}

// TestLimitOrder: P21.1, ErrBudget comes ahead of ErrBig; what the answer does not need may be as large as it likes.
func TestLimitOrder(t *testing.T) {
	x, ids := readAll(t, hard(), "q", wide(200, ""), "v -> v")
	big := sized(t, x, 65537)
	put := func(k api.Kind, a, b int) int {
		id, e := x.Put(join(k, a, b))
		if e != api.OK {
			t.Fatal(e)
		}
		return id
	}
	for _, other := range to(big, ids[3]) {
		refusesForm(t, x, put(api.KAnd, other, ids[0]), api.ErrBudget)
		refusesForm(t, x, put(api.KAnd, ids[0], other), api.ErrBudget)
	}
	refusesForm(t, x, put(api.KOr, ids[2], ids[0]), api.ErrBudget)
	refusesForm(t, x, put(api.KOr, ids[2], big), api.ErrBig)
	for _, id := range to(put(api.KAnd, big, ids[1]), put(api.KAnd, ids[1], big)) {
		if a, e := heldForm(t, x, id); a.Proved || len(a.Model.Up) != 1 || e != api.OK {
			t.Error(show(a), e)
		}
	}
	for _, id := range to(put(api.KOr, ids[2], ids[3]), put(api.KOr, ids[3], ids[2])) {
		if a, e := heldForm(t, x, id); !a.Proved || term.Size(a.Term) != 3 || e != api.OK {
			t.Error(show(a), e)
		}
	}
}

// roomTexts are formulas whose search makes rows, some that are proved and some that are not.
func roomTexts() []string {
	return []string{"(p & q -> r) -> r", "(p | q -> r) -> q -> r", "((p -> q) -> r) -> r", "~~(p | ~p)", "~~(((p -> q) -> p) -> p)", "((p | q) & (q | r) -> s) -> s", "~(p | q) & ~(q | r) -> ~(p & r)"}
}

// TestLimitRoom: P21.1, tables that are full, or become full on the way: ErrBudget; with as much room as there must be the formula is decided, up to a full table.
func TestLimitRoom(t *testing.T) {
	for _, text := range roomTexts() {
		x := formula.New()
		id := read(t, x, text)
		want, _ := decide.Form(x, id)
		need := len(want.Rows) - x.Len()
		if need == 0 {
			t.Errorf("%s makes no rows", text)
		}
		for room := range need + 2 {
			full := filled(t, x.Rows(), api.MaxForms-room)
			if room < need {
				refusesForm(t, full, id, api.ErrBudget)
			} else if a, e := heldForm(t, full, id); a.Proved != want.Proved || a.Visits != want.Visits || len(a.Rows) != api.MaxForms-room+need || e != api.OK {
				t.Errorf("%s with room for %d: %s, error %d", text, room, show(a), e)
			}
		}
		if a, e := heldForm(t, filled(t, want.Rows, api.MaxForms), id); a.Proved != want.Proved || len(a.Rows) != api.MaxForms || e != api.OK {
			t.Errorf("%s with all rows: %s, error %d", text, show(a), e)
		}
	}
}

// TestLimitRoomText: P21.2, ErrBudget at a zero spot, where a text's formula has room, and the search's formulas have none.
func TestLimitRoomText(t *testing.T) {
	var names []string
	for i := range 254 {
		names = append(names, "p"+strconv.Itoa(i))
	}
	text := "~~(" + strings.Join(names, " <-> ") + ")"
	x := formula.New()
	id, f := syntax.Parse(x, text)
	if f != (api.Fault{}) {
		t.Fatal(f)
	}
	if _, e := search.Run(x, api.Seq{Goal: id}, api.MaxVisits); e != api.ErrForms {
		t.Fatal(e)
	}
	refusesForm(t, x, id, api.ErrBudget)
	refusesText(t, text, api.Fault{Code: api.ErrBudget})
}

// TestLimitRowsOfText: P21.2, as many rows as a text's formula may have: each `<->` makes three.
func TestLimitRowsOfText(t *testing.T) {
	names := []string{"~p0", "true"}
	for i := range 254 {
		names = append(names, "p"+strconv.Itoa(i+1))
	}
	text := strings.Join(names, " <-> ")
	if syntax.Count(text) != api.MaxFormula {
		t.Fatal(syntax.Count(text))
	}
	a, f := heldText(t, text)
	if len(a.Rows) < 1023 || a.Proved || f != (api.Fault{}) {
		t.Error(show(a), f)
	}
}
