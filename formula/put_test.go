package formula_test

import (
	"math"
	"slices"
	"strings"
	"testing"

	"dictum/api"
	"dictum/formula"
)

// TestPutRows: P3.2, rows get numbers from 0 on, each behind the others.
func TestPutRows(t *testing.T) {
	f := formula.New()
	for i, n := range sample() {
		id, e := f.Put(n)
		answers(t, "Put", id, e, i, api.OK)
		holds(t, f, sample()[:i+1])
	}
}

// TestPutAgain: P3.2, a row that is there already keeps its number, and no row is put.
func TestPutAgain(t *testing.T) {
	f := made(t, sample())
	for i, n := range sample() {
		id, e := f.Put(n)
		answers(t, "Put again", id, e, i, api.OK)
	}
	holds(t, f, sample())
}

// TestPutOrderOfParts: P3.2, rows that differ in one thing alone are two rows.
func TestPutOrderOfParts(t *testing.T) {
	rows := []api.Node{atom("p"), atom("P"), atom("p'"), bot()}
	for _, k := range []api.Kind{api.KAnd, api.KOr, api.KImp} {
		rows = append(rows, join(k, 0, 1), join(k, 1, 0), join(k, 0, 0), join(k, 0, 2), join(k, 2, 0))
	}
	f := formula.New()
	for i, n := range rows {
		id, e := f.Put(n)
		answers(t, "Put", id, e, i, api.OK)
	}
	holds(t, f, rows)
}

// refused are rows that sample's table of six rows does not take, and why.
func refused() map[api.Node]api.Errno {
	out := map[api.Node]api.Errno{
		{}:                                         api.ErrForm,
		{Kind: api.KAtom, Name: "p", L: 1}:         api.ErrForm,
		{Kind: api.KAtom, Name: "p", R: 1}:         api.ErrForm,
		{Kind: api.KAtom, Name: "p", L: -1}:        api.ErrForm,
		{Kind: api.KAtom, Name: "p", L: 1, R: -1}:  api.ErrForm,
		{Kind: api.KAtom, Name: "let", L: 1}:       api.ErrForm, // the shape is asked ahead of the name
		{Kind: api.KAtom, Name: "", R: -1}:         api.ErrForm,
		{Kind: api.KBot, L: 1}:                     api.ErrForm,
		{Kind: api.KBot, R: 1}:                     api.ErrForm,
		{Kind: api.KBot, R: -1}:                    api.ErrForm,
		{Kind: api.KBot, Name: "p"}:                api.ErrForm,
		{Kind: api.KBot, Name: "false"}:            api.ErrForm,
		atom(""):                                   api.ErrAtom,
		atom("1"):                                  api.ErrAtom,
		atom("_"):                                  api.ErrAtom,
		atom("'p"):                                 api.ErrAtom,
		atom("p q"):                                api.ErrAtom,
		atom("é"):                                  api.ErrAtom,
		atom(strings.Repeat("p", api.MaxName+1)):   api.ErrAtom,
		{Kind: math.MaxInt}:                        api.ErrForm,
		{Kind: math.MinInt}:                        api.ErrForm,
		{Kind: 1 << 32, Name: "p"}:                 api.ErrForm,
		{Kind: api.KAnd, Name: "let", L: 0, R: 99}: api.ErrForm,
	}
	for _, k := range []api.Kind{-1, 0, 6, 7, 100} {
		out[api.Node{Kind: k}] = api.ErrForm
		out[api.Node{Kind: k, Name: "p"}] = api.ErrForm
		out[api.Node{Kind: k, Name: "let"}] = api.ErrForm
		out[api.Node{Kind: k, L: 1}] = api.ErrForm
	}
	for _, k := range []api.Kind{api.KAnd, api.KOr, api.KImp} {
		for _, bad := range []int{-1, 6, 7, api.MaxForms, math.MaxInt, math.MinInt} {
			out[join(k, bad, 0)] = api.ErrForm
			out[join(k, 0, bad)] = api.ErrForm
			out[join(k, bad, bad)] = api.ErrForm
		}
		out[api.Node{Kind: k, Name: "p"}] = api.ErrForm
		out[api.Node{Kind: k, Name: "let", L: 1, R: 2}] = api.ErrForm
	}
	for _, w := range taken {
		out[atom(w)] = api.ErrAtom
	}
	return out
}

// TestPutRefused: P3.2, what is no row is refused by the error that comes first, and changes nothing.
func TestPutRefused(t *testing.T) {
	f := made(t, sample())
	for n, want := range refused() {
		id, e := f.Put(n)
		if id != 0 || e != want {
			t.Errorf("Put(%v): %d, error %d, not error %d", n, id, e, want)
		}
		if id, ok := f.Find(n); id != 0 || ok {
			t.Errorf("Find(%v): %d, %v", n, id, ok)
		}
	}
	holds(t, f, sample())
}

// TestPutPartsOfRowZero: P3.2, in a table without rows no number is a row's, 0 neither.
func TestPutPartsOfRowZero(t *testing.T) {
	f := formula.New()
	for _, k := range []api.Kind{api.KAnd, api.KOr, api.KImp} {
		id, e := f.Put(join(k, 0, 0))
		answers(t, "Put", id, e, 0, api.ErrForm)
	}
	id, e := f.Not(0)
	answers(t, "Not", id, e, 0, api.ErrForm)
	holds(t, f, nil)
}

// TestShortCalls: P3.2, Atom, Bot, And, Or, Imp are Put of such a row.
func TestShortCalls(t *testing.T) {
	calls := []func(f *formula.Table) (int, api.Errno){
		func(f *formula.Table) (int, api.Errno) { return f.Atom("p") },
		func(f *formula.Table) (int, api.Errno) { return f.Atom("q") },
		func(f *formula.Table) (int, api.Errno) { return f.And(0, 1) },
		func(f *formula.Table) (int, api.Errno) { return f.Bot() },
		func(f *formula.Table) (int, api.Errno) { return f.Or(2, 0) },
		func(f *formula.Table) (int, api.Errno) { return f.Imp(4, 3) },
	}
	f := formula.New()
	for range 2 { // the second time they are there already
		for i, call := range calls {
			id, e := call(f)
			answers(t, "call", id, e, i, api.OK)
		}
	}
	holds(t, f, sample())
}

// TestShortCallsRefused: P3.2, they have Put's errors.
func TestShortCallsRefused(t *testing.T) {
	f := made(t, sample())
	for _, w := range append(slices.Clone(taken), "", "1", "_", "'", "é", strings.Repeat("p", 32)) {
		id, e := f.Atom(w)
		answers(t, "Atom "+w, id, e, 0, api.ErrAtom)
	}
	for _, bad := range []int{-1, 6, 7, math.MaxInt, math.MinInt} {
		for _, call := range []func(int, int) (int, api.Errno){f.And, f.Or, f.Imp} {
			id, e := call(bad, 0)
			answers(t, "left", id, e, 0, api.ErrForm)
			id, e = call(0, bad)
			answers(t, "right", id, e, 0, api.ErrForm)
		}
		id, e := f.Not(bad)
		answers(t, "Not", id, e, 0, api.ErrForm)
	}
	holds(t, f, sample())
}

// TestNot: P3.2, false is put ahead of the implication, each just if it is not there.
func TestNot(t *testing.T) {
	f := made(t, atoms(2))
	id, e := f.Not(1)
	answers(t, "Not", id, e, 3, api.OK)
	id, e = f.Not(0)
	answers(t, "Not", id, e, 4, api.OK)
	id, e = f.Not(1)
	answers(t, "Not again", id, e, 3, api.OK)
	id, e = f.Not(2)
	answers(t, "Not of false", id, e, 5, api.OK)
	holds(t, f, append(atoms(2), bot(), join(api.KImp, 1, 2), join(api.KImp, 0, 2), join(api.KImp, 2, 2)))
}

// TestNotOfNone: P3.2, a number that is no row's is refused ahead of Bot, even if false would get that number.
func TestNotOfNone(t *testing.T) {
	f := made(t, atoms(2))
	for _, a := range []int{-1, 2, 3} {
		id, e := f.Not(a)
		answers(t, "Not", id, e, 0, api.ErrForm)
	}
	holds(t, f, atoms(2))
}

// TestFullTable: P3.2, a table of MaxForms rows takes no other, but finds what it has; and shape and name are asked ahead of the room.
func TestFullTable(t *testing.T) {
	rows := atoms(api.MaxForms - 1)
	f := made(t, rows)
	id, e := f.Or(0, api.MaxForms-2)
	answers(t, "the last row", id, e, api.MaxForms-1, api.OK)
	rows = append(rows, join(api.KOr, 0, api.MaxForms-2))
	for _, n := range []api.Node{atom("q"), bot(), join(api.KAnd, 0, 1), join(api.KOr, 0, 1023), join(api.KImp, 0, 1)} {
		id, e := f.Put(n)
		answers(t, "Put", id, e, 0, api.ErrForms)
	}
	for i, n := range rows {
		id, e := f.Put(n)
		answers(t, "Put again", id, e, i, api.OK)
	}
	id, e = f.Atom("let")
	answers(t, "no name", id, e, 0, api.ErrAtom)
	id, e = f.And(0, api.MaxForms)
	answers(t, "no part", id, e, 0, api.ErrForm)
	id, e = f.Put(api.Node{})
	answers(t, "no kind", id, e, 0, api.ErrForm)
	id, e = f.Not(api.MaxForms)
	answers(t, "Not of none", id, e, 0, api.ErrForm)
	holds(t, f, rows)
}

// TestNotWithoutRoom: P3.2, Not where there is no room for false, or none behind it, or none needed.
func TestNotWithoutRoom(t *testing.T) {
	rows := atoms(api.MaxForms)
	f := made(t, rows)
	id, e := f.Not(0)
	answers(t, "no room for false", id, e, 0, api.ErrForms)
	holds(t, f, rows)

	f = made(t, rows[:api.MaxForms-1])
	id, e = f.Not(0)
	answers(t, "none behind false", id, e, 0, api.ErrForms)
	holds(t, f, append(atoms(api.MaxForms-1), bot()))
	id, e = f.Not(0)
	answers(t, "false is there, no room", id, e, 0, api.ErrForms)
	holds(t, f, append(atoms(api.MaxForms-1), bot()))

	f = made(t, rows[:api.MaxForms-2])
	for range 2 {
		id, e = f.Not(7)
		answers(t, "room for both", id, e, api.MaxForms-1, api.OK)
	}
	holds(t, f, append(atoms(api.MaxForms-2), bot(), join(api.KImp, 7, api.MaxForms-2)))
}
