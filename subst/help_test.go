package subst_test

import (
	"math"
	"math/rand/v2"
	"slices"
	"strconv"
	"strings"
	"testing"

	"dictum/api"
	"dictum/formula"
	"dictum/subst"
	"dictum/syntax"
)

func atom(name string) api.Node { return api.Node{Kind: api.KAtom, Name: name} }

func bot() api.Node { return api.Node{Kind: api.KBot} }

func join(k api.Kind, l, r int) api.Node { return api.Node{Kind: k, L: l, R: r} }

func kinds() []api.Kind { return []api.Kind{api.KAnd, api.KOr, api.KImp} }

func newChance(seed uint64) *rand.Rand { return rand.New(rand.NewPCG(7, seed)) }

// made is the table of rows that are one.
func made(t *testing.T, rows []api.Node) *formula.Table {
	t.Helper()
	f, e := formula.From(rows)
	if f == nil || e != api.OK {
		t.Fatalf("From(%v): error %d", rows, e)
	}
	return f
}

// read is the number that a formula's text has in the table, behind what its parts get.
func read(t *testing.T, f *formula.Table, text string) int {
	t.Helper()
	id, fault := syntax.Parse(f, text)
	if fault.Code != api.OK {
		t.Fatalf("%q: error %d at %v", text, fault.Code, fault.At)
	}
	return id
}

// list reads what is put for what: texts such as "p by q & r".
func list(t *testing.T, f *formula.Table, texts ...string) []api.Hyp {
	t.Helper()
	var by []api.Hyp
	for _, s := range texts {
		name, form, ok := strings.Cut(s, " by ")
		if !ok {
			t.Fatalf("%q has no by", s)
		}
		by = append(by, api.Hyp{Name: name, Form: read(t, f, form)})
	}
	return by
}

// same holds what is in a table against rows.
func same(t *testing.T, f *formula.Table, want []api.Node) {
	t.Helper()
	if got := f.Rows(); !slices.Equal(got, want) {
		t.Errorf("the table's rows: %v, not %v", got, want)
	}
}

// answers holds a number and an error against those that should be.
func answers(t *testing.T, what string, id int, e api.Errno, want int, wantE api.Errno) {
	t.Helper()
	if id != want || e != wantE {
		t.Errorf("%s: %d, error %d, not %d, error %d", what, id, e, want, wantE)
	}
}

// puts holds Put of a text by texts against a text, in a table of their own.
func puts(t *testing.T, text, want string, by ...string) {
	t.Helper()
	f := formula.New()
	id, l := read(t, f, text), list(t, f, by...)
	got, e := subst.Put(f, id, l)
	answers(t, "Put of "+text, got, e, read(t, f, want), api.OK)
}

func replaces(t *testing.T, text, old, by, want string) {
	t.Helper()
	f := formula.New()
	id, o, b := read(t, f, text), read(t, f, old), read(t, f, by)
	got, e := subst.Replace(f, id, o, b)
	answers(t, "Replace in "+text, got, e, read(t, f, want), api.OK)
}

func simple(t *testing.T, text, want string) {
	t.Helper()
	f := formula.New()
	id := read(t, f, text)
	got, e := subst.Simple(f, id)
	answers(t, "Simple of "+text, got, e, read(t, f, want), api.OK)
}

// matches holds Match of texts against what is told of each atom, in a table that must not get rows.
func matches(t *testing.T, pattern, text string, want ...string) {
	t.Helper()
	f := formula.New()
	p, id := read(t, f, pattern), read(t, f, text)
	l := list(t, f, want...)
	rows := f.Rows()
	got, ok, e := subst.Match(f, p, id)
	if !slices.Equal(got, l) || !ok || e != api.OK {
		t.Errorf("Match(%s, %s): %v, %v, error %d, not %v", pattern, text, got, ok, e, l)
	}
	same(t, f, rows)
}

func matchesNot(t *testing.T, pattern, text string) {
	t.Helper()
	f := formula.New()
	p, id := read(t, f, pattern), read(t, f, text)
	rows := f.Rows()
	if got, ok, e := subst.Match(f, p, id); len(got) != 0 || ok || e != api.OK {
		t.Errorf("Match(%s, %s): %v, %v, error %d", pattern, text, got, ok, e)
	}
	same(t, f, rows)
}

// noForms are numbers that no formula of a table with so many rows has.
func noForms(many int) []int {
	return []int{-1, -2, -many - 1, math.MinInt, math.MinInt + 1, many, many + 1, 2*many + 7, api.MaxForms, api.MaxForms + 1, math.MaxInt - 1, math.MaxInt}
}

// noNames are texts that are no atom's name.
func noNames() []string {
	return []string{"", "let", "in", "case", "of", "fun", "fst", "snd", "inl", "inr", "abort", "true", "false", "1", "1p", "'", "p q", " p", "p ", "é", "pé", "p-", "\x00", "\xff", strings.Repeat("p", api.MaxName+1)}
}

// someRows are rows of a table by chance, with up to so many atoms, each joined of some of the last near rows ahead of it.
func someRows(chance *rand.Rand, many, near, atoms int) []api.Node {
	f := formula.New()
	f.Atom("a")
	for f.Len() < many {
		part := func() int { return f.Len() - 1 - chance.IntN(min(near, f.Len())) }
		switch chance.IntN(10) {
		case 0, 1:
			f.Atom(string(rune('a' + chance.IntN(atoms))))
		case 2:
			f.Bot()
		default:
			f.Put(join(kinds()[chance.IntN(3)], part(), part()))
		}
	}
	return f.Rows()
}

// filled has so many rows: those that are given and, behind them, atoms that stand nowhere else.
func filled(t *testing.T, rows []api.Node, many int) *formula.Table {
	t.Helper()
	f := made(t, rows)
	for i := 0; f.Len() < many; i++ {
		if _, e := f.Atom("fill" + strconv.Itoa(i)); e != api.OK {
			t.Fatalf("row %d: error %d", f.Len(), e)
		}
	}
	return f
}
