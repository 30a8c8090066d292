package term_test

import (
	"math"
	"math/rand/v2"
	"slices"
	"strconv"
	"strings"
	"testing"

	"dictum/api"
	"dictum/formula"
	"dictum/term"
	"dictum/token"
)

func newChance(seed uint64) *rand.Rand { return rand.New(rand.NewPCG(12, seed)) }

func atom(name string) api.Node { return api.Node{Kind: api.KAtom, Name: name} }

func bot() api.Node { return api.Node{Kind: api.KBot} }

func join(k api.Kind, l, r int) api.Node { return api.Node{Kind: k, L: l, R: r} }

func of(k api.TermKind, parts ...api.Term) api.Term { return api.Term{Kind: k, Sub: parts} }

func v(name string) api.Term { return api.Term{Kind: api.TVar, Name: name} }

func lam(name string, a api.Term) api.Term {
	return api.Term{Kind: api.TLam, Name: name, Sub: []api.Term{a}}
}

func app(a, b api.Term) api.Term { return of(api.TApp, a, b) }

func pair(a, b api.Term) api.Term { return of(api.TPair, a, b) }

func the(a api.Term, form int) api.Term {
	return api.Term{Kind: api.TThe, Form: form, Sub: []api.Term{a}}
}

func let(name string, a, b api.Term) api.Term {
	return api.Term{Kind: api.TLet, Name: name, Sub: []api.Term{a, b}}
}

func choose(a api.Term, name string, b api.Term, other string, c api.Term) api.Term {
	return api.Term{Kind: api.TCase, Name: name, Other: other, Sub: []api.Term{a, b, c}}
}

// heads are the kinds with a word ahead of their one part.
func heads() []api.TermKind {
	return []api.TermKind{api.TFst, api.TSnd, api.TInl, api.TInr, api.TAbort}
}

// holders are the kinds that have parts, each with one of its parts being x, and the others x0, x1.
func holders(x api.Term) []api.Term {
	a, b := v("x0"), v("x1")
	out := []api.Term{
		lam("n", x), app(x, a), app(a, x), pair(x, a), pair(a, x), the(x, 7),
		choose(x, "n", a, "m", b), choose(a, "n", x, "m", b), choose(a, "n", b, "m", x), let("n", x, a), let("n", a, x),
	}
	for _, k := range heads() {
		out = append(out, of(k, x))
	}
	return out
}

// balanced is a term of all of these, joined by pairs, with as few levels as may be.
func balanced(l []api.Term) api.Term {
	if len(l) == 1 {
		return l[0]
	}
	return pair(balanced(l[:len(l)/2]), balanced(l[len(l)/2:]))
}

// sized is a term of so many nodes and few levels, of that name alone.
func sized(nodes int, name string) api.Term {
	if nodes%2 == 0 {
		return of(api.TFst, sized(nodes-1, name))
	}
	return balanced(slices.Repeat([]api.Term{v(name)}, (nodes+1)/2))
}

// tall is a term of so many levels: x, and TFst round it.
func tall(levels int, x api.Term) api.Term {
	for range levels - 1 {
		x = of(api.TFst, x)
	}
	return x
}

// clone is a term that shares nothing with another one.
func clone(x api.Term) api.Term {
	x.Sub = slices.Clone(x.Sub)
	for i := range x.Sub {
		x.Sub[i] = clone(x.Sub[i])
	}
	return x
}

// alike tells whether two terms are the same in all; nil and empty lists are.
func alike(a, b api.Term) bool {
	return a.Kind == b.Kind && a.Name == b.Name && a.Other == b.Other && a.Form == b.Form && slices.EqualFunc(a.Sub, b.Sub, alike)
}

// zero tells whether a term is the zero term.
func zero(x api.Term) bool { return alike(x, api.Term{}) }

// spoil turns all that a term holds into something else.
func spoil(x api.Term) {
	l := x.Sub[:cap(x.Sub)] // the room behind a list's end, too
	for i := range l {
		spoil(l[i])
		l[i] = api.Term{Kind: -7, Name: "spoiled", Form: -7}
	}
}

// show is a term as a test tells it, whatever it holds, but no more than a line of it.
func show(x api.Term) string {
	var out strings.Builder
	var walk func(x api.Term)
	walk = func(x api.Term) {
		if out.Len() > 300 {
			return
		}
		out.WriteString("{" + strconv.Itoa(int(x.Kind)) + " " + x.Name + " " + x.Other + " " + strconv.Itoa(x.Form))
		for _, part := range x.Sub {
			walk(part)
		}
		out.WriteString("}")
	}
	walk(x)
	return out.String()
}

// made is the table of rows that are one.
func made(t *testing.T, rows ...api.Node) *formula.Table {
	t.Helper()
	x, e := formula.From(rows)
	if x == nil || e != api.OK {
		t.Fatalf("From(%v): error %d", rows, e)
	}
	return x
}

// filled has so many rows: those that are given and, behind them, atoms that stand nowhere else.
func filled(t *testing.T, rows []api.Node, many int) *formula.Table {
	t.Helper()
	x := made(t, rows...)
	for i := 0; x.Len() < many; i++ {
		if _, e := x.Atom("fill" + strconv.Itoa(i)); e != api.OK {
			t.Fatalf("row %d: error %d", x.Len(), e)
		}
	}
	return x
}

// read is the term of a text without formulas.
func read(t *testing.T, text string) api.Term {
	t.Helper()
	x, f := term.Parse(formula.New(), text)
	if f != (api.Fault{}) {
		t.Fatalf("Parse(%q): fault %v", text, f)
	}
	return x
}

// checks asks for that error of Check, and for a term that is as it was.
func checks(t *testing.T, x api.Term, want api.Errno) {
	t.Helper()
	was := clone(x)
	if e := term.Check(x); e != want {
		t.Errorf("Check(%s): error %d, not %d", show(x), e, want)
	}
	if !alike(x, was) {
		t.Errorf("Check has changed %s to %s", show(was), show(x))
	}
}

// frees asks for these free names.
func frees(t *testing.T, x api.Term, want ...string) {
	t.Helper()
	was := clone(x)
	if l, e := term.Free(x); !slices.Equal(l, want) || e != api.OK {
		t.Errorf("Free(%s): %q, error %d, not %q", show(x), l, e, want)
	}
	if !alike(x, was) {
		t.Errorf("Free has changed %s to %s", show(was), show(x))
	}
}

// alpha asks for that answer of Alpha, both ways.
func alpha(t *testing.T, a, b api.Term, want bool) {
	t.Helper()
	if term.Alpha(a, b) != want || term.Alpha(b, a) != want {
		t.Errorf("Alpha(%s, %s): %v, and the other way %v", show(a), show(b), term.Alpha(a, b), term.Alpha(b, a))
	}
}

// puts asks for that answer of Put, for arguments that are as they were, and for an answer that shares nothing with them or within itself.
func puts(t *testing.T, x api.Term, name string, y api.Term, want api.Term) {
	t.Helper()
	wasX, wasY := clone(x), clone(y)
	got, e := term.Put(x, name, y)
	if e != api.OK || !alike(got, want) {
		t.Errorf("Put(%s, %s, %s): %s, error %d, not %s", show(x), name, show(y), show(got), e, show(want))
		return
	}
	own(t, got)
	spoil(got)
	if !alike(x, wasX) || !alike(y, wasY) {
		t.Errorf("Put(%s, %s, %s) has changed what it was handed, or shares memory with it", show(wasX), name, show(wasY))
	}
}

// own asks that no two lists of a term share memory.
func own(t *testing.T, x api.Term) {
	t.Helper()
	seen := map[*api.Term]bool{}
	var walk func(x api.Term)
	walk = func(x api.Term) {
		for i := range x.Sub[:cap(x.Sub)] {
			place := &x.Sub[:cap(x.Sub)][i]
			if seen[place] {
				t.Errorf("lists that share memory in %s", show(x))
			}
			seen[place] = true
		}
		for _, part := range x.Sub {
			walk(part)
		}
	}
	walk(x)
}

// refusesPut asks for that error of Put beside the zero term.
func refusesPut(t *testing.T, x api.Term, name string, y api.Term, want api.Errno) {
	t.Helper()
	if got, e := term.Put(x, name, y); e != want || !zero(got) {
		t.Errorf("Put(%s, %q, %s): %s, error %d, not %d", show(x), name, show(y), show(got), e, want)
	}
}

// parses asks for that term of a text, and for these rows, and no others, behind those that the table had.
func parses(t *testing.T, x *formula.Table, text string, want api.Term, more ...api.Node) {
	t.Helper()
	rows := x.Rows()
	got, f := term.Parse(x, text)
	if f != (api.Fault{}) || !alike(got, want) {
		t.Errorf("Parse(%.300q): %s, fault %v, not %s", text, show(got), f, show(want))
	}
	if !slices.Equal(x.Rows(), append(rows, more...)) {
		t.Errorf("Parse(%.300q): %d rows became %v", text, len(rows), x.Rows())
	}
}

// fails asks for that fault beside the zero term, and for a table that is as it was.
func fails(t *testing.T, x *formula.Table, text string, want api.Fault) {
	t.Helper()
	rows := x.Rows()
	if got, f := term.Parse(x, text); f != want || !zero(got) {
		t.Errorf("Parse(%.300q): %s, fault %v, not %v", text, show(got), f, want)
	}
	if !slices.Equal(x.Rows(), rows) {
		t.Errorf("Parse(%.300q) has changed the table", text)
	}
}

// refuses asks for a fault at the spot of that byte.
func refuses(t *testing.T, x *formula.Table, text string, code api.Errno, off int) {
	t.Helper()
	fails(t, x, text, api.Fault{Code: code, At: token.At(text, off)})
}

// prints asks for a term's text, and for a table and a term that are as they were.
func prints(t *testing.T, x *formula.Table, y api.Term, want string) {
	t.Helper()
	rows, was := x.Rows(), clone(y)
	if got, e := term.Print(x, y); got != want || e != api.OK {
		t.Errorf("Print(%s): %.300q, error %d, not %.300q", show(y), got, e, want)
	}
	if !slices.Equal(x.Rows(), rows) || !alike(y, was) {
		t.Errorf("Print(%s) has changed what it was handed", show(was))
	}
}

// refusesPrint asks for that error of Print beside the empty text.
func refusesPrint(t *testing.T, x *formula.Table, y api.Term, want api.Errno) {
	t.Helper()
	if got, e := term.Print(x, y); got != "" || e != want {
		t.Errorf("Print(%s): %.80q, error %d, not %d", show(y), got, e, want)
	}
}

// noNames are texts that no name is.
func noNames() []string {
	return []string{
		"", " ", "1", "1x", "_", "_x", "'", "'x", "x y", "x ", " x", "x\n", "x-", "x.", "é", "xé", "x\x00", "\xff", "⊤", "(x)", strings.Repeat("n", 32), strings.Repeat("n", 1000),
		"abort", "case", "false", "fst", "fun", "in", "inl", "inr", "let", "of", "snd", "true",
	}
}

// someNames are names, at the edges of what one is and near the words that are taken.
func someNames() []string {
	return []string{"x", "Z", "x'", "x_1", "v0", "v", "funs", "Fun", "o", "of'", "true1", "h12", strings.Repeat("n", 31)}
}

// noForms are numbers that no table has room for.
func noForms() []int {
	return []int{-1, -2, -1024, api.MaxForms, api.MaxForms + 1, 1 << 16, 1<<32 - 1, 1 << 32, math.MaxInt, math.MinInt, math.MinInt + 1}
}

// someTerm is a term by chance, of up to so many levels, with these names and numbers of formulas below forms.
func someTerm(chance *rand.Rand, levels int, names []string, forms int) api.Term {
	name := func() string { return names[chance.IntN(len(names))] }
	part := func() api.Term { return someTerm(chance, levels-1, names, forms) }
	kind := api.TermKind(1 + chance.IntN(12))
	if levels == 1 || chance.IntN(8) == 0 || kind == api.TThe && forms == 0 {
		return v(name())
	}
	switch kind {
	case api.TVar, api.TApp:
		return app(part(), part())
	case api.TLam:
		return lam(name(), part())
	case api.TPair:
		return pair(part(), part())
	case api.TCase:
		return choose(part(), name(), part(), name(), part())
	case api.TThe:
		return the(part(), chance.IntN(forms))
	case api.TLet:
		return let(name(), part(), part())
	}
	return of(kind, part())
}

// allTerms are all terms of just so many nodes with these names and formulas' numbers below forms.
func allTerms(nodes int, names []string, forms int) []api.Term {
	var out []api.Term
	if nodes == 1 {
		for _, name := range names {
			out = append(out, v(name))
		}
		return out
	}
	for _, a := range allTerms(nodes-1, names, forms) {
		for _, name := range names {
			out = append(out, lam(name, a))
		}
		for _, k := range heads() {
			out = append(out, of(k, a))
		}
		for form := range forms {
			out = append(out, the(a, form))
		}
	}
	for n := 1; n < nodes-1; n++ {
		for _, a := range allTerms(n, names, forms) {
			for _, b := range allTerms(nodes-1-n, names, forms) {
				out = append(out, app(a, b), pair(a, b))
				for _, name := range names {
					out = append(out, let(name, a, b))
				}
			}
		}
	}
	return append(out, allCases(nodes, names, forms)...)
}

// allCases are those of allTerms that are cases.
func allCases(nodes int, names []string, forms int) []api.Term {
	var out []api.Term
	for n := 1; n < nodes-2; n++ {
		for m := 1; m < nodes-1-n; m++ {
			for _, a := range allTerms(n, names, forms) {
				for _, b := range allTerms(m, names, forms) {
					for _, c := range allTerms(nodes-1-n-m, names, forms) {
						for _, name := range names {
							for _, other := range names {
								out = append(out, choose(a, name, b, other, c))
							}
						}
					}
				}
			}
		}
	}
	return out
}
