package formula_test

import (
	"math"
	"slices"
	"testing"

	"dictum/api"
	"dictum/formula"
)

// TestNew: P3.1, a table without rows, which takes some; and R4, two tables know nothing of one another.
func TestNew(t *testing.T) {
	one, two := formula.New(), formula.New()
	if one == nil || two == nil || one == two {
		t.Fatal("no two tables")
	}
	holds(t, one, nil)
	id, e := one.Atom("p")
	answers(t, "Atom", id, e, 0, api.OK)
	holds(t, one, []api.Node{atom("p")})
	holds(t, two, nil)
	id, e = two.Bot()
	answers(t, "Bot", id, e, 0, api.OK)
	holds(t, one, []api.Node{atom("p")})
	holds(t, two, []api.Node{bot()})
}

// TestNode: P3.3, a row, or one without a kind.
func TestNode(t *testing.T) {
	f := made(t, sample())
	for i, want := range sample() {
		if n, ok := f.Node(i); n != want || !ok {
			t.Errorf("Node(%d): %v, %v", i, n, ok)
		}
	}
	for _, id := range []int{-1, -6, 6, 7, api.MaxForms, math.MaxInt, math.MinInt, 1 << 32} {
		if n, ok := f.Node(id); n != (api.Node{}) || ok {
			t.Errorf("Node(%d): %v, %v", id, n, ok)
		}
	}
}

// TestFind: P3.3, the number of just that row; nothing becomes one.
func TestFind(t *testing.T) {
	f := made(t, sample())
	for i, n := range sample() {
		if id, ok := f.Find(n); id != i || !ok {
			t.Errorf("Find(%v): %d, %v", n, id, ok)
		}
	}
	for _, n := range []api.Node{
		{}, atom("r"), atom("P"), atom(""), atom("let"), join(api.KAnd, 1, 0), join(api.KOr, 0, 1), join(api.KImp, 0, 1), join(api.KImp, 4, 9),
		{Kind: api.KBot, Name: "p"}, {Kind: api.KBot, L: 1}, {Kind: api.KAtom, Name: "p", R: 1}, {Kind: api.KAnd, Name: "p", L: 0, R: 1},
		{Name: "p"}, {Kind: 9, Name: "p"}, {Kind: -1},
	} {
		if id, ok := f.Find(n); id != 0 || ok {
			t.Errorf("Find(%v): %d, %v", n, id, ok)
		}
	}
	holds(t, f, sample())
}

// TestLen: P3.3, it rises with new rows alone.
func TestLen(t *testing.T) {
	f := formula.New()
	for i, n := range sample() {
		if f.Len() != i {
			t.Errorf("%d rows, not %d", f.Len(), i)
		}
		f.Put(n)
		f.Put(n)
		f.Put(api.Node{})
	}
	if f.Len() != 6 {
		t.Errorf("%d rows", f.Len())
	}
}

// TestRowsAreNew: P3.3, what is done to the answer is not seen in the table, nor in another answer.
func TestRowsAreNew(t *testing.T) {
	f := made(t, sample())
	one, two := f.Rows(), f.Rows()
	one[0] = atom("spoiled")
	_ = append(one[:1], atom("spoiled"))
	holds(t, f, sample())
	if !slices.Equal(two, sample()) {
		t.Error(two)
	}
	f.Cut(0)
	f.Atom("r")
	if !slices.Equal(two, sample()) {
		t.Error("the table's change is seen in its earlier rows:", two)
	}
}

// TestRowsRoom: P3.3 and R3, room behind an answer's end is not the table's own.
func TestRowsRoom(t *testing.T) {
	for n := range 20 {
		f := made(t, atoms(n))
		l := append(f.Rows(), atom("spoiled"))
		f.Bot()
		holds(t, f, append(atoms(n), bot()))
		if !slices.Equal(l, append(atoms(n), atom("spoiled"))) {
			t.Errorf("%d rows: %v", n, l)
		}
	}
}

// TestCopy: P3.3, a table with the same rows; what is put into one or cut off it is not seen in the other.
func TestCopy(t *testing.T) {
	for n := range len(sample()) + 1 {
		rows := sample()[:n]
		one := made(t, rows)
		two := one.Copy()
		if two == nil || two == one {
			t.Fatal("no table of its own")
		}
		holds(t, two, rows)

		one.Atom("r")
		two.Atom("s")
		holds(t, one, append(sample()[:n:n], atom("r")))
		holds(t, two, append(sample()[:n:n], atom("s")))
		absent(t, one, atom("s"))
		absent(t, two, atom("r"))

		one.Cut(0)
		holds(t, one, nil)
		holds(t, two, append(sample()[:n:n], atom("s")))
		one.Atom("t")
		two.Cut(n)
		holds(t, one, []api.Node{atom("t")})
		holds(t, two, rows)
	}
}

// TestCopyOfCopy: P3.3, neither does a copy know what became of the one it was copied from.
func TestCopyOfCopy(t *testing.T) {
	one := made(t, sample())
	two := one.Copy()
	three := two.Copy()
	two.Cut(1)
	two.Atom("x")
	holds(t, one, sample())
	holds(t, two, []api.Node{atom("p"), atom("x")})
	holds(t, three, sample())
}

// absent tells of a row that the table should not find.
func absent(t *testing.T, f *formula.Table, n api.Node) {
	t.Helper()
	if id, ok := f.Find(n); id != 0 || ok {
		t.Errorf("Find(%v): %d, %v", n, id, ok)
	}
}

// TestFrom: P3.4, the table of these rows, which goes on as any other.
func TestFrom(t *testing.T) {
	for n := range len(sample()) + 1 {
		f := made(t, sample()[:n])
		holds(t, f, sample()[:n])
		id, e := f.Atom("r")
		answers(t, "Atom", id, e, n, api.OK)
	}
	for _, rows := range [][]api.Node{nil, {}} {
		holds(t, made(t, rows), nil)
	}
}

// TestFromRefused: P3.4, the first error in the order of the rows.
func TestFromRefused(t *testing.T) {
	for _, c := range []struct {
		why  string
		rows []api.Node
		want api.Errno
	}{
		{"like an earlier one", []api.Node{bot(), bot()}, api.ErrForm},
		{"like an earlier one", []api.Node{atom("p"), atom("q"), atom("p")}, api.ErrForm},
		{"like an earlier one", []api.Node{atom("p"), join(api.KAnd, 0, 0), bot(), join(api.KAnd, 0, 0)}, api.ErrForm},
		{"like the row ahead", []api.Node{atom("p"), atom("q"), atom("q")}, api.ErrForm},
		{"names a later row", []api.Node{atom("p"), join(api.KOr, 0, 2), atom("q")}, api.ErrForm},
		{"names a later row", []api.Node{atom("p"), join(api.KOr, 2, 0), atom("q")}, api.ErrForm},
		{"names itself", []api.Node{atom("p"), join(api.KImp, 1, 0)}, api.ErrForm},
		{"names itself", []api.Node{atom("p"), join(api.KImp, 0, 1)}, api.ErrForm},
		{"names itself, the first one", []api.Node{join(api.KAnd, 0, 0)}, api.ErrForm},
		{"names a number below 0", []api.Node{atom("p"), join(api.KAnd, -1, 0)}, api.ErrForm},
		{"names a number past the end", []api.Node{atom("p"), join(api.KAnd, 0, 2)}, api.ErrForm},
		{"no kind", []api.Node{{}}, api.ErrForm},
		{"no kind", []api.Node{atom("p"), {Kind: 6, L: 0, R: 0}}, api.ErrForm},
		{"false with a name", []api.Node{{Kind: api.KBot, Name: "p"}}, api.ErrForm},
		{"an atom with a part", []api.Node{bot(), {Kind: api.KAtom, Name: "p", R: 1}}, api.ErrForm},
		{"no name", []api.Node{atom("")}, api.ErrAtom},
		{"no name", []api.Node{atom("p"), atom("let")}, api.ErrAtom},
		{"no name ahead of no kind", []api.Node{atom("p"), atom("let"), {}}, api.ErrAtom},
		{"no kind ahead of no name", []api.Node{atom("p"), {}, atom("let")}, api.ErrForm},
		{"alike ahead of no name", []api.Node{atom("p"), atom("p"), atom("1")}, api.ErrForm},
		{"no name twice", []api.Node{atom("1"), atom("1")}, api.ErrAtom},
	} {
		given := slices.Clone(c.rows)
		if f, e := formula.From(c.rows); f != nil || e != c.want {
			t.Errorf("%s, From(%v): %v, error %d, not error %d", c.why, c.rows, f, e, c.want)
		}
		if !slices.Equal(given, c.rows) {
			t.Errorf("From changed %v to %v", given, c.rows)
		}
	}
}

// TestFromEachRefused: P3.4, every row that Put refuses, behind good ones and ahead of good ones.
func TestFromEachRefused(t *testing.T) {
	for n, want := range refused() {
		for _, rows := range [][]api.Node{append(sample(), n), append(sample(), n, atom("r"), bot())} {
			if f, e := formula.From(rows); f != nil || e != want {
				t.Errorf("From(%v): %v, error %d, not error %d", rows, f, e, want)
			}
		}
	}
}

// TestFromFull: P3.4, MaxForms rows are a table; one more is ErrForms, or ErrForm if it is there already, or what else is wrong with it.
func TestFromFull(t *testing.T) {
	rows := atoms(api.MaxForms)
	holds(t, made(t, rows), rows)
	for _, c := range []struct {
		behind []api.Node
		want   api.Errno
	}{
		{[]api.Node{bot()}, api.ErrForms},
		{[]api.Node{join(api.KAnd, 0, 1)}, api.ErrForms},
		{[]api.Node{bot(), {}}, api.ErrForms},
		{[]api.Node{atom("a7")}, api.ErrForm},
		{[]api.Node{join(api.KAnd, 0, api.MaxForms)}, api.ErrForm},
		{[]api.Node{atom("let")}, api.ErrAtom},
		{[]api.Node{{}, bot()}, api.ErrForm},
	} {
		if f, e := formula.From(append(slices.Clone(rows), c.behind...)); f != nil || e != c.want {
			t.Errorf("%v behind: %v, error %d, not error %d", c.behind, f != nil, e, c.want)
		}
	}
}

// TestFromDoesNotKeep: R3 and R7, the rows that were handed in are the caller's own, and room behind their end nobody's.
func TestFromDoesNotKeep(t *testing.T) {
	rows := append(sample(), atom("behind"), atom("behind"))
	f := made(t, rows[:6])
	holds(t, f, sample())
	rows[0] = atom("spoiled")
	holds(t, f, sample())
	f.Atom("r")
	if rows[6] != atom("behind") || rows[0] != atom("spoiled") {
		t.Error("From keeps what it was handed:", rows)
	}
	f.Cut(0)
	if rows[1] != atom("q") {
		t.Error("Cut is seen in what From was handed:", rows)
	}
}

// TestBelow: P3.5, all of which a formula is made, each once, rising.
func TestBelow(t *testing.T) {
	// p, q, p & q, false, (p & q) | p, ((p & q) | p) -> false, r, r -> r, (r -> r) & q
	rows := append(sample(), atom("r"), join(api.KImp, 6, 6), join(api.KAnd, 7, 1))
	f := made(t, rows)
	for id, want := range [][]int{{0}, {1}, {0, 1, 2}, {3}, {0, 1, 2, 4}, {0, 1, 2, 3, 4, 5}, {6}, {6, 7}, {1, 6, 7, 8}} {
		got, e := f.Below(id)
		if !slices.Equal(got, want) || e != api.OK {
			t.Errorf("Below(%d): %v, error %d, not %v", id, got, e, want)
		}
		for i := range got {
			got[i] = -1
		}
		if again, _ := f.Below(id); !slices.Equal(again, want) {
			t.Errorf("Below(%d) again: %v", id, again)
		}
	}
	holds(t, f, rows)
}

// TestBelowRefused: P3.5, numbers that are no row's.
func TestBelowRefused(t *testing.T) {
	for _, n := range []int{0, 6} {
		f := made(t, sample()[:n])
		for _, id := range []int{-1, -6, n, n + 1, api.MaxForms, math.MaxInt, math.MinInt} {
			if l, e := f.Below(id); len(l) != 0 || e != api.ErrForm {
				t.Errorf("%d rows, Below(%d): %v, error %d", n, id, l, e)
			}
		}
	}
}

// TestBelowGreat: P3.5 and R1, a formula of 2^1023 leaves has 1024 formulas below, and is gone through in a moment.
func TestBelowGreat(t *testing.T) {
	rows := []api.Node{atom("p")}
	for i := range api.MaxForms - 1 {
		rows = append(rows, join(api.KAnd, i, i))
	}
	l, e := made(t, rows).Below(api.MaxForms - 1)
	if len(l) != api.MaxForms || e != api.OK {
		t.Fatalf("%d formulas, error %d", len(l), e)
	}
	for i, id := range l {
		if id != i {
			t.Fatalf("place %d: %d", i, id)
		}
	}
}

// TestCut: P3.6, at every number, what is cut off is forgotten and its numbers are given anew.
func TestCut(t *testing.T) {
	for n := range len(sample()) + 1 {
		f := made(t, sample())
		if e := f.Cut(n); e != api.OK {
			t.Errorf("Cut(%d): error %d", n, e)
		}
		holds(t, f, sample()[:n])
		for _, row := range sample()[n:] {
			absent(t, f, row)
		}
		id, e := f.Atom("anew")
		answers(t, "Atom", id, e, n, api.OK)
		holds(t, f, append(sample()[:n:n], atom("anew")))
		if n < len(sample()) {
			cutPartsAreNone(t, f, n+1)
		}
	}
}

// cutPartsAreNone: a number that was cut off is no part, and has nothing below, until it is given anew.
func cutPartsAreNone(t *testing.T, f *formula.Table, id int) {
	t.Helper()
	if _, e := f.And(0, id); e != api.ErrForm {
		t.Errorf("And(0, %d): error %d", id, e)
	}
	if _, e := f.Not(id); e != api.ErrForm {
		t.Errorf("Not(%d): error %d", id, e)
	}
	if l, e := f.Below(id); len(l) != 0 || e != api.ErrForm {
		t.Errorf("Below(%d): %v, error %d", id, l, e)
	}
}

// TestCutAnew: P3.6, rows that were cut off get new numbers, others than their old ones, if they are put again in another order.
func TestCutAnew(t *testing.T) {
	f := made(t, sample())
	f.Cut(1)
	for i, n := range []api.Node{bot(), join(api.KImp, 0, 1), atom("q"), join(api.KAnd, 0, 3)} {
		id, e := f.Put(n)
		answers(t, "Put", id, e, i+1, api.OK)
	}
	holds(t, f, []api.Node{atom("p"), bot(), join(api.KImp, 0, 1), atom("q"), join(api.KAnd, 0, 3)})
	absent(t, f, join(api.KAnd, 0, 1))
}

// TestCutRefused: P3.6, what is not from 0 to Len is refused and changes nothing.
func TestCutRefused(t *testing.T) {
	for _, rows := range [][]api.Node{nil, sample()} {
		f := made(t, rows)
		for _, n := range []int{-1, -6, len(rows) + 1, len(rows) + 2, api.MaxForms, math.MaxInt, math.MinInt} {
			if e := f.Cut(n); e != api.ErrArg {
				t.Errorf("%d rows, Cut(%d): error %d", len(rows), n, e)
			}
			holds(t, f, rows)
		}
	}
}

// TestCutMakesRoom: P3.6 and P3.2, a full table takes rows again behind a Cut.
func TestCutMakesRoom(t *testing.T) {
	f := made(t, atoms(api.MaxForms))
	if e := f.Cut(api.MaxForms - 2); e != api.OK {
		t.Errorf("Cut: error %d", e)
	}
	id, e := f.Not(0)
	answers(t, "Not", id, e, api.MaxForms-1, api.OK)
	id, e = f.Not(1)
	answers(t, "Not", id, e, 0, api.ErrForms)
	holds(t, f, append(atoms(api.MaxForms-2), bot(), join(api.KImp, 0, api.MaxForms-2)))
}
