package classical_test

import (
	"slices"
	"testing"

	"dictum/api"
	"dictum/classical"
	"dictum/decide"
	"dictum/formula"
	"dictum/types"
)

// plainNames are the names of the atoms of a formula, by bytes.
func plainNames(rows []api.Node, ids ...int) []string {
	var out []string
	seen := make([]bool, len(rows))
	var walk func(id int)
	walk = func(id int) {
		if seen[id] {
			return
		}
		seen[id] = true
		switch n := rows[id]; n.Kind {
		case api.KAtom:
			out = append(out, n.Name)
		case api.KAnd, api.KOr, api.KImp:
			walk(n.L)
			walk(n.R)
		}
	}
	for _, id := range ids {
		walk(id)
	}
	slices.Sort(out)
	return out
}

// plainTrue tells of each row of a table whether it is true where just the atoms that are chosen are.
func plainTrue(rows []api.Node, chosen []string) []bool {
	out := make([]bool, len(rows))
	for id, n := range rows {
		switch n.Kind {
		case api.KAtom:
			out[id] = slices.Contains(chosen, n.Name)
		case api.KAnd:
			out[id] = out[n.L] && out[n.R]
		case api.KOr:
			out[id] = out[n.L] || out[n.R]
		case api.KImp:
			out[id] = !(out[n.L] && !out[n.R])
		}
	}
	return out
}

// plainChosen are the atoms that row n makes true.
func plainChosen(names []string, n int) []string {
	var out []string
	for _, name := range names {
		if n%2 == 1 {
			out = append(out, name)
		}
		n /= 2
	}
	return out
}

// plainRefused is the first error that P22.1 says of formulas of a table.
func plainRefused(rows []api.Node, ids ...int) api.Errno {
	for _, id := range ids {
		if id < 0 || id >= len(rows) {
			return api.ErrForm
		}
	}
	if len(plainNames(rows, ids...)) > 12 {
		return api.ErrAtoms
	}
	return api.OK
}

// plainTable is P22.1 as it stands, of a table with these rows.
func plainTable(rows []api.Node, id int) ([]string, []bool, api.Errno) {
	if e := plainRefused(rows, id); e != api.OK {
		return nil, nil, e
	}
	names := plainNames(rows, id)
	var values []bool
	many := 1
	for range names {
		many *= 2
	}
	for n := range many {
		values = append(values, plainTrue(rows[:id+1], plainChosen(names, n))[id])
	}
	return names, values, api.OK
}

// plainEqual is P22.1's Equal as it stands.
func plainEqual(rows []api.Node, a, b int) (bool, api.Errno) {
	if e := plainRefused(rows, a, b); e != api.OK {
		return false, e
	}
	names := plainNames(rows, a, b)
	for n := range 1 << len(names) {
		values := plainTrue(rows, plainChosen(names, n))
		if values[a] != values[b] {
			return false, api.OK
		}
	}
	return true, api.OK
}

// plain is a table as the chapters' words say it: a list that is gone through from its beginning.
type plain struct {
	rows []api.Node
	full bool // a row had no room
}

func (p *plain) put(n api.Node) int {
	if id := slices.Index(p.rows, n); id >= 0 {
		return id
	}
	if len(p.rows) == 1024 {
		p.full = true
		return 0
	}
	p.rows = append(p.rows, n)
	return len(p.rows) - 1
}

func (p *plain) not(id int) int {
	b := p.put(bot())
	return p.put(imp(id, b))
}

func (p *plain) double(id int) int {
	id = p.not(id)
	return p.not(id)
}

// below are the numbers of the formulas of which one is made, rising.
func (p *plain) below(id int) []int {
	l := to(id)
	for at := 0; at < len(l); at++ {
		if n := p.rows[l[at]]; n.Kind >= api.KAnd {
			for _, part := range to(n.L, n.R) {
				if !slices.Contains(l, part) {
					l = append(l, part)
				}
			}
		}
	}
	slices.Sort(l)
	return l
}

func (p *plain) kolmogorov(id int) int {
	image := make([]int, id+1)
	for _, part := range p.below(id) {
		switch n := p.rows[part]; n.Kind {
		case api.KAtom:
			image[part] = p.double(part)
		case api.KBot:
			image[part] = part
		default:
			image[part] = p.double(p.put(join(n.Kind, image[n.L], image[n.R])))
		}
	}
	return image[id]
}

func (p *plain) gentzen(id int) int {
	image := make([]int, id+1)
	for _, part := range p.below(id) {
		switch n := p.rows[part]; n.Kind {
		case api.KAtom:
			image[part] = p.double(part)
		case api.KBot:
			image[part] = part
		case api.KOr:
			l := p.not(image[n.L])
			r := p.not(image[n.R])
			image[part] = p.not(p.put(and(l, r)))
		default:
			image[part] = p.put(join(n.Kind, image[n.L], image[n.R]))
		}
	}
	return image[id]
}

// negations goes by the chapter's list: the sign of the left part, the sign of the right one, and what joins them, of each kind and sign.
func (p *plain) negations(id int) int {
	type signed struct {
		id       int
		positive bool
	}
	type way struct {
		l, r bool
		kind api.Kind
	}
	ways := map[api.Kind]map[bool]way{
		api.KAnd: {true: {true, true, api.KAnd}, false: {false, false, api.KOr}},
		api.KOr:  {true: {true, true, api.KOr}, false: {false, false, api.KAnd}},
		api.KImp: {true: {false, true, api.KOr}, false: {true, false, api.KAnd}},
	}
	known := map[signed]int{}
	var of func(s signed) int
	of = func(s signed) int {
		if form, ok := known[s]; ok {
			return form
		}
		n := p.rows[s.id]
		form := s.id
		switch {
		case n.Kind >= api.KAnd:
			w := ways[n.Kind][s.positive]
			l := of(signed{n.L, w.l})
			r := of(signed{n.R, w.r})
			form = p.put(join(w.kind, l, r))
		case n.Kind == api.KAtom && !s.positive:
			form = p.not(s.id)
		case !s.positive:
			form = p.put(imp(s.id, s.id))
		}
		known[s] = form
		return form
	}
	return of(signed{id, true})
}

// plainMade are the rows that a call which makes a formula leaves behind those of the table, its number and its error; with ErrForms they are those that it would have made ahead.
func plainMade(k making, rows []api.Node, id int) ([]api.Node, int, api.Errno) {
	if id < 0 || id >= len(rows) {
		return nil, 0, api.ErrForm
	}
	p := &plain{rows: slices.Clone(rows)}
	form := k.plain(p, id)
	if p.full {
		return p.rows[len(rows):], 0, api.ErrForms
	}
	return p.rows[len(rows):], form, api.OK
}

// plainDecide is P22.2 as it stands, of a table with these rows.
func plainDecide(t *testing.T, rows []api.Node, id int) (api.Classic, api.Errno) {
	t.Helper()
	names, values, e := plainTable(rows, id)
	if e != api.OK {
		return api.Classic{}, e
	}
	if least := slices.Index(values, false); least >= 0 {
		c := api.Classic{Atoms: names}
		chosen := plainChosen(names, least)
		for _, name := range names {
			c.Row = append(c.Row, slices.Contains(chosen, name))
		}
		return c, api.OK
	}
	p := &plain{rows: slices.Clone(rows)}
	double := p.double(id)
	if p.full {
		return api.Classic{}, api.ErrBudget
	}
	a, e := decide.Form(made(t, p.rows...), double)
	if e != api.OK {
		return api.Classic{}, e
	}
	return api.Classic{Proved: true, Rows: a.Rows, Form: a.Form, Term: a.Term, Visits: a.Visits}, api.OK
}

// heldTable asks that Table, Always and Models answer what P22.1 says, and leave the table; and answers the table.
func heldTable(t *testing.T, x *formula.Table, id int) ([]string, []bool, api.Errno) {
	t.Helper()
	names, values, want := plainTable(x.Rows(), id)
	untouched(t, x, func() {
		if l, v, e := classical.Table(x, id); !slices.Equal(l, names) || !slices.Equal(v, values) || e != want {
			t.Fatalf("Table(%d) of %v: %v, %s, error %d, not %v, %s, error %d", id, x.Rows(), l, digits(v), e, names, digits(values), want)
		}
	})
	least := max(slices.Index(values, false), 0)
	always := want == api.OK && !slices.Contains(values, false)
	untouched(t, x, func() {
		if is, n, e := classical.Always(x, id); is != always || n != least || e != want {
			t.Fatalf("Always(%d) of %v: %v, %d, error %d, not %v, %d, error %d", id, x.Rows(), is, n, e, always, least, want)
		}
	})
	var models []int
	for n, value := range values {
		if value {
			models = append(models, n)
		}
	}
	untouched(t, x, func() {
		seq, e := classical.Models(x, id)
		if l := collected(t, seq); !slices.Equal(l, models) || e != want {
			t.Fatalf("Models(%d) of %v: %v, error %d, not %v, error %d", id, x.Rows(), l, e, models, want)
		}
	})
	return names, values, want
}

// heldEqual asks that Equal answers what P22.1 says, and leaves the table; and answers it.
func heldEqual(t *testing.T, x *formula.Table, a, b int) (bool, api.Errno) {
	t.Helper()
	want, refusal := plainEqual(x.Rows(), a, b)
	untouched(t, x, func() {
		if is, e := classical.Equal(x, a, b); is != want || e != refusal {
			t.Fatalf("Equal(%d, %d) of %v: %v, error %d, not %v, error %d", a, b, x.Rows(), is, e, want, refusal)
		}
	})
	return want, refusal
}

// heldDecide asks that Decide answers what P22.2 says, which is right, and leaves the table; and answers it.
func heldDecide(t *testing.T, x *formula.Table, id int) (api.Classic, api.Errno) {
	t.Helper()
	want, refusal := plainDecide(t, x.Rows(), id)
	var got api.Classic
	var e api.Errno
	untouched(t, x, func() { got, e = classical.Decide(x, id) })
	if !alike(got, want) || e != refusal {
		t.Fatalf("Decide(%d) of %v: %s, error %d, not %s, error %d", id, x.Rows(), show(got), e, show(want), refusal)
	}
	if e == api.OK {
		rightAnswer(t, x, id, got)
	}
	return got, e
}

// rightAnswer asks that an answer is one of a table's formula: a term that layer 13 takes at its double negation, or a row in which it is false.
func rightAnswer(t *testing.T, x *formula.Table, id int, c api.Classic) {
	t.Helper()
	rows := x.Rows()
	if !c.Proved {
		var chosen []string
		for i, name := range c.Atoms {
			if c.Row[i] {
				chosen = append(chosen, name)
			}
		}
		if len(c.Row) != len(c.Atoms) || plainTrue(rows, chosen)[id] {
			t.Fatalf("%s: the formula %d of %v is true", show(c), id, rows)
		}
		return
	}
	y := made(t, c.Rows...)
	if !slices.Equal(c.Rows[:len(rows)], rows) || c.Visits < 1 || c.Visits > api.MaxVisits {
		t.Fatalf("%s: rows %v", show(c), c.Rows)
	}
	outer, _ := y.Node(c.Form)
	inner, _ := y.Node(outer.L)
	none, _ := y.Node(inner.R)
	if inner.L != id || outer != imp(outer.L, inner.R) || inner.Kind != api.KImp || none != bot() {
		t.Fatalf("%s: %v is not Not of Not of %d", show(c), outer, id)
	}
	if e := types.Check(y, nil, c.Term, c.Form); e != api.OK {
		t.Fatalf("%s: error %d", show(c), e)
	}
}

// heldMade asks that a call makes what the chapter says, and the rows in their order, or leaves the table as it was, so that no row that was made on the way is found; and answers it.
func heldMade(t *testing.T, k making, x *formula.Table, id int) (int, api.Errno) {
	t.Helper()
	before := x.Rows()
	more, want, refusal := plainMade(k, before, id)
	got, e := k.of(x, id)
	if got != want || e != refusal {
		t.Fatalf("%s(%d) of %v: %d, error %d, not %d, error %d", k.name, id, before, got, e, want, refusal)
	}
	rows := before
	if e == api.OK {
		rows = append(rows, more...)
	}
	if !slices.Equal(x.Rows(), rows) {
		t.Fatalf("%s(%d) of %v: rows %v, not %v", k.name, id, before, x.Rows(), rows)
	}
	for i, n := range more {
		if at, ok := x.Find(n); ok != (e == api.OK) || ok && at != len(before)+i {
			t.Fatalf("%s(%d) of %v: row %v is found as %d, %v", k.name, id, before, n, at, ok)
		}
	}
	return got, e
}

// refuses asks for that error of all calls that are asked of one formula alone, beside nothing.
func refuses(t *testing.T, x *formula.Table, id int, want api.Errno) {
	t.Helper()
	refusesTable(t, x, id, want)
	for _, k := range makings() {
		untouched(t, x, func() {
			if form, e := k.of(x, id); form != 0 || e != want {
				t.Errorf("%s(%d): %d, error %d, not error %d", k.name, id, form, e, want)
			}
		})
	}
}

// refusesTable asks for that error of the calls that P22.1 and P22.2 say of one formula, beside nothing.
func refusesTable(t *testing.T, x *formula.Table, id int, want api.Errno) {
	t.Helper()
	untouched(t, x, func() {
		if l, v, e := classical.Table(x, id); len(l) != 0 || len(v) != 0 || e != want {
			t.Errorf("Table(%d): %v, %v, error %d, not error %d", id, l, v, e, want)
		}
		if is, n, e := classical.Always(x, id); is || n != 0 || e != want {
			t.Errorf("Always(%d): %v, %d, error %d, not error %d", id, is, n, e, want)
		}
		seq, e := classical.Models(x, id)
		for range 2 {
			if l := collected(t, seq); len(l) != 0 || e != want {
				t.Errorf("Models(%d): %v, error %d, not error %d", id, l, e, want)
			}
		}
	})
	refusesDecide(t, x, id, want)
}

// refusesDecide asks for that error of Decide beside nothing.
func refusesDecide(t *testing.T, x *formula.Table, id int, want api.Errno) {
	t.Helper()
	untouched(t, x, func() {
		if c, e := classical.Decide(x, id); !alike(c, api.Classic{}) || e != want {
			t.Errorf("Decide(%d): %s, error %d, not error %d", id, show(c), e, want)
		}
	})
}

// refusesEqual asks for that error of Equal beside false, either way.
func refusesEqual(t *testing.T, x *formula.Table, a, b int, want api.Errno) {
	t.Helper()
	untouched(t, x, func() {
		for range 2 {
			if is, e := classical.Equal(x, a, b); is || e != want {
				t.Errorf("Equal(%d, %d): %v, error %d, not error %d", a, b, is, e, want)
			}
			a, b = b, a
		}
	})
}
