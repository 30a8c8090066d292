package formula_test

import (
	"math/rand/v2"
	"slices"
	"strconv"
	"testing"

	"dictum/api"
	"dictum/formula"
)

// plain is a table as the chapter's words say it: a list that is gone through from its beginning.
type plain struct{ rows []api.Node }

func (p *plain) has(id int) bool { return id >= 0 && id < len(p.rows) }

func (p *plain) put(n api.Node) (int, api.Errno) {
	switch n.Kind {
	case api.KAtom, api.KBot:
		if n.L != 0 || n.R != 0 || n.Kind == api.KBot && n.Name != "" {
			return 0, api.ErrForm
		}
	case api.KAnd, api.KOr, api.KImp:
		if n.Name != "" || !p.has(n.L) || !p.has(n.R) {
			return 0, api.ErrForm
		}
	default:
		return 0, api.ErrForm
	}
	if n.Kind == api.KAtom && !plainWord(n.Name) {
		return 0, api.ErrAtom
	}
	if id := slices.Index(p.rows, n); id >= 0 {
		return id, api.OK
	}
	if len(p.rows) == api.MaxForms {
		return 0, api.ErrForms
	}
	p.rows = append(p.rows, n)
	return len(p.rows) - 1, api.OK
}

func (p *plain) not(a int) (int, api.Errno) {
	if !p.has(a) {
		return 0, api.ErrForm
	}
	b, e := p.put(bot())
	if e != api.OK {
		return 0, e
	}
	return p.put(join(api.KImp, a, b))
}

func (p *plain) cut(n int) api.Errno {
	if n < 0 || n > len(p.rows) {
		return api.ErrArg
	}
	p.rows = slices.Clone(p.rows[:n])
	return api.OK
}

func (p *plain) below(id int) ([]int, api.Errno) {
	if !p.has(id) {
		return nil, api.ErrForm
	}
	l := []int{id}
	if n := p.rows[id]; n.Kind >= api.KAnd {
		for _, part := range []int{n.L, n.R} {
			more, _ := p.below(part)
			l = append(l, more...)
		}
	}
	slices.Sort(l)
	return slices.Compact(l), api.OK
}

// someRow is a row by chance: mostly one that a table of so many rows takes.
func someRow(chance *rand.Rand, many int) api.Node {
	part := func() int { return chance.IntN(many+2) - chance.IntN(20)/19 }
	switch chance.IntN(12) {
	case 0, 1:
		return atom("a" + strconv.Itoa(chance.IntN(8)))
	case 2:
		return bot()
	case 3:
		names := []string{"", "p", "let", "_", "p'"}
		return api.Node{Kind: api.Kind(chance.IntN(8) - 1), Name: names[chance.IntN(len(names))], L: part() * chance.IntN(2), R: part() * chance.IntN(2)}
	}
	return join(api.KAnd+api.Kind(chance.IntN(3)), part(), part())
}

// step does one thing by chance to both, and holds the answers against each other.
func step(t *testing.T, chance *rand.Rand, f *formula.Table, p *plain) {
	t.Helper()
	switch many := len(p.rows); chance.IntN(10) {
	case 0:
		n := many + 1 - chance.IntN(4)
		if got, want := f.Cut(n), p.cut(n); got != want {
			t.Fatalf("Cut(%d) of %d rows: error %d, not %d", n, many, got, want)
		}
	case 1:
		a := chance.IntN(many+2) - 1
		id, e := f.Not(a)
		wantID, want := p.not(a)
		answers(t, "Not", id, e, wantID, want)
	case 2:
		id := chance.IntN(many+2) - 1
		got, e := f.Below(id)
		want, wantE := p.below(id)
		if !slices.Equal(got, want) || e != wantE {
			t.Fatalf("Below(%d) of %v: %v, error %d, not %v, error %d", id, p.rows, got, e, want, wantE)
		}
	default:
		n := someRow(chance, many)
		id, e := f.Put(n)
		wantID, want := p.put(n)
		answers(t, "Put", id, e, wantID, want)
	}
}

// inOrder: P3.7, no two rows are alike, and the parts of a row stand ahead of it.
func inOrder(t *testing.T, rows []api.Node) {
	t.Helper()
	for i, n := range rows {
		if slices.Index(rows, n) != i {
			t.Fatalf("row %d, %v, is there twice", i, n)
		}
		if n.Kind >= api.KAnd && (n.L >= i || n.R >= i || n.L < 0 || n.R < 0) {
			t.Fatalf("row %d, %v, stands ahead of its parts", i, n)
		}
	}
}

// TestFollows: P3.7 and P3.2 to P3.6, rows of calls by chance, against the plain table.
func TestFollows(t *testing.T) {
	chance := rand.New(rand.NewPCG(6, 7))
	for range 400 {
		f, p := formula.New(), &plain{}
		for range chance.IntN(60) {
			step(t, chance, f, p)
			holds(t, f, p.rows)
		}
		inOrder(t, f.Rows())
		again, e := formula.From(f.Rows())
		if e != api.OK {
			t.Fatalf("From(%v): error %d", f.Rows(), e)
		}
		holds(t, again, p.rows)
		for range 10 { // the same table also in what is put in behind
			step(t, chance, again, p)
		}
		holds(t, again, p.rows)
	}
}

// TestNumbersStay: P3.7, a row's number is the same behind whatever is put or refused, and behind cuts further on.
func TestNumbersStay(t *testing.T) {
	chance := rand.New(rand.NewPCG(8, 9))
	f := made(t, sample())
	for range 3000 {
		switch {
		case chance.IntN(40) == 0:
			f.Cut(len(sample()) + chance.IntN(f.Len()-len(sample())+1))
		default:
			f.Put(someRow(chance, f.Len()))
		}
		for i, n := range sample() {
			if id, e := f.Put(n); id != i || e != api.OK {
				t.Fatalf("%v: %d, error %d, not %d", n, id, e, i)
			}
		}
	}
	inOrder(t, f.Rows())
}

// TestSameCallsSameTable: R4 and R8, the same calls make the same table, whatever other tables there are.
func TestSameCallsSameTable(t *testing.T) {
	build := func(beside *formula.Table) []api.Node {
		chance := rand.New(rand.NewPCG(10, 11))
		f := formula.New()
		for range 2000 {
			n := someRow(chance, f.Len())
			f.Put(n)
			beside.Put(join(api.KImp, 0, 0))
			beside.Cut(1)
		}
		return f.Rows()
	}
	one, two := build(made(t, sample())), build(formula.New())
	if !slices.Equal(one, two) || len(one) < 100 {
		t.Errorf("%d and %d rows", len(one), len(two))
	}
}
