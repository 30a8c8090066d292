package reduce_test

import (
	"math"
	"math/rand/v2"
	"slices"
	"strconv"
	"strings"
	"testing"

	"dictum/api"
	"dictum/formula"
	"dictum/reduce"
	"dictum/term"
)

func newChance(seed uint64) *rand.Rand { return rand.New(rand.NewPCG(14, seed)) }

func atom(name string) api.Node { return api.Node{Kind: api.KAtom, Name: name} }

func bot() api.Node { return api.Node{Kind: api.KBot} }

func join(k api.Kind, l, r int) api.Node { return api.Node{Kind: k, L: l, R: r} }

func hyp(name string, form int) api.Hyp { return api.Hyp{Name: name, Form: form} }

func of(k api.TermKind, parts ...api.Term) api.Term { return api.Term{Kind: k, Sub: parts} }

func v(name string) api.Term { return api.Term{Kind: api.TVar, Name: name} }

func lam(name string, a api.Term) api.Term {
	return api.Term{Kind: api.TLam, Name: name, Sub: []api.Term{a}}
}

func app(a, b api.Term) api.Term { return of(api.TApp, a, b) }

func pair(a, b api.Term) api.Term { return of(api.TPair, a, b) }

func fst(a api.Term) api.Term { return of(api.TFst, a) }

func snd(a api.Term) api.Term { return of(api.TSnd, a) }

func inl(a api.Term) api.Term { return of(api.TInl, a) }

func inr(a api.Term) api.Term { return of(api.TInr, a) }

func abort(a api.Term) api.Term { return of(api.TAbort, a) }

func the(a api.Term, form int) api.Term {
	return api.Term{Kind: api.TThe, Form: form, Sub: []api.Term{a}}
}

func let(name string, a, b api.Term) api.Term {
	return api.Term{Kind: api.TLet, Name: name, Sub: []api.Term{a, b}}
}

func choose(a api.Term, name string, b api.Term, other string, c api.Term) api.Term {
	return api.Term{Kind: api.TCase, Name: name, Other: other, Sub: []api.Term{a, b, c}}
}

// heads are the kinds with a word ahead of their one part.
func heads() []api.TermKind {
	return []api.TermKind{api.TFst, api.TSnd, api.TInl, api.TInr, api.TAbort}
}

// clone is a term that shares nothing with another one.
func clone(x api.Term) api.Term {
	x.Sub = slices.Clone(x.Sub)
	for i := range x.Sub {
		x.Sub[i] = clone(x.Sub[i])
	}
	return x
}

// alike tells whether two terms are the same in all; nil and empty lists are.
func alike(a, b api.Term) bool {
	return a.Kind == b.Kind && a.Name == b.Name && a.Other == b.Other && a.Form == b.Form && slices.EqualFunc(a.Sub, b.Sub, alike)
}

// show is a term as a test tells it, whatever it holds, but no more than a line of it.
func show(x api.Term) string {
	var out strings.Builder
	var walk func(x api.Term)
	walk = func(x api.Term) {
		if out.Len() > 300 {
			return
		}
		out.WriteString("{" + strconv.Itoa(int(x.Kind)) + " " + x.Name + " " + x.Other + " " + strconv.Itoa(x.Form))
		for _, part := range x.Sub {
			walk(part)
		}
		out.WriteString("}")
	}
	walk(x)
	return out.String()
}

// made is the table of rows that are one.
func made(t *testing.T, rows ...api.Node) *formula.Table {
	t.Helper()
	f, e := formula.From(rows)
	if f == nil || e != api.OK {
		t.Fatalf("From(%v): error %d", rows, e)
	}
	return f
}

// filled has so many rows: those that are given and, behind them, atoms that stand nowhere else.
func filled(t *testing.T, rows []api.Node, many int) *formula.Table {
	t.Helper()
	f := made(t, rows...)
	for i := 0; f.Len() < many; i++ {
		if _, e := f.Atom("fill" + strconv.Itoa(i)); e != api.OK {
			t.Fatalf("row %d: error %d", f.Len(), e)
		}
	}
	return f
}

// noMade are tables that no call made.
func noMade() []*formula.Table { return []*formula.Table{nil, {}, new(formula.Table)} }

// noForms are numbers that no table has room for.
func noForms() []int {
	return []int{-1, -2, -1024, api.MaxForms, api.MaxForms + 1, 1 << 16, 1<<32 - 1, 1 << 32, math.MaxInt, math.MinInt, math.MinInt + 1}
}

// someRows are rows of a table by chance: false, atoms, and what is made of them.
func someRows(chance *rand.Rand, many int, atoms int) []api.Node {
	f := formula.New()
	for f.Len() < many {
		if n := f.Len(); n > 1 && chance.IntN(4) > 0 {
			f.Put(join(api.KAnd+api.Kind(chance.IntN(3)), chance.IntN(n), chance.IntN(n)))
		} else if chance.IntN(5) == 0 {
			f.Bot()
		} else {
			f.Atom("a" + strconv.Itoa(chance.IntN(atoms)))
		}
	}
	return f.Rows()
}

// someHyps are hypotheses by chance, with these names.
func someHyps(chance *rand.Rand, many int, names []string, forms int) []api.Hyp {
	var out []api.Hyp
	for range many {
		out = append(out, hyp(names[chance.IntN(len(names))], chance.IntN(forms)))
	}
	return out
}

// someTerm is a term by chance, of up to so many levels, with these names and numbers of formulas below forms.
func someTerm(chance *rand.Rand, levels int, names []string, forms int) api.Term {
	name := func() string { return names[chance.IntN(len(names))] }
	part := func() api.Term { return someTerm(chance, levels-1, names, forms) }
	kind := api.TermKind(1 + chance.IntN(12))
	if levels == 1 || chance.IntN(8) == 0 {
		return v(name())
	}
	switch kind {
	case api.TVar, api.TApp:
		return app(part(), part())
	case api.TLam:
		return lam(name(), part())
	case api.TPair:
		return pair(part(), part())
	case api.TCase:
		return choose(part(), name(), part(), name(), part())
	case api.TThe:
		return the(part(), chance.IntN(forms))
	case api.TLet:
		return let(name(), part(), part())
	}
	return of(kind, part())
}

// allTerms are all terms of just so many nodes with these names and formulas' numbers below forms.
func allTerms(nodes int, names []string, forms int) []api.Term {
	var out []api.Term
	if nodes == 1 {
		for _, name := range names {
			out = append(out, v(name))
		}
		return out
	}
	for _, a := range allTerms(nodes-1, names, forms) {
		for _, name := range names {
			out = append(out, lam(name, a))
		}
		for _, k := range heads() {
			out = append(out, of(k, a))
		}
		for form := range forms {
			out = append(out, the(a, form))
		}
	}
	for n := 1; n < nodes-1; n++ {
		for _, a := range allTerms(n, names, forms) {
			for _, b := range allTerms(nodes-1-n, names, forms) {
				out = append(out, app(a, b), pair(a, b))
				for _, name := range names {
					out = append(out, let(name, a, b))
				}
			}
		}
	}
	return append(out, allCases(nodes, names, forms)...)
}

// allCases are those of allTerms that are cases.
func allCases(nodes int, names []string, forms int) []api.Term {
	var out []api.Term
	for n := 1; n < nodes-2; n++ {
		for m := 1; m < nodes-1-n; m++ {
			for _, a := range allTerms(n, names, forms) {
				for _, b := range allTerms(m, names, forms) {
					for _, c := range allTerms(nodes-1-n-m, names, forms) {
						for _, name := range names {
							for _, other := range names {
								out = append(out, choose(a, name, b, other, c))
							}
						}
					}
				}
			}
		}
	}
	return out
}

// zero tells whether a term is the zero term.
func zero(x api.Term) bool { return alike(x, api.Term{}) }

// spoil turns all that a term holds into something else.
func spoil(x api.Term) {
	l := x.Sub[:cap(x.Sub)] // the room behind a list's end, too
	for i := range l {
		spoil(l[i])
		l[i] = api.Term{Kind: -7, Name: "spoiled", Form: -7}
	}
}

// own asks that no two lists of a term share memory.
func own(t *testing.T, x api.Term) {
	t.Helper()
	seen := map[*api.Term]bool{}
	var walk func(x api.Term)
	walk = func(x api.Term) {
		for i := range x.Sub[:cap(x.Sub)] {
			place := &x.Sub[:cap(x.Sub)][i]
			if seen[place] {
				t.Errorf("lists that share memory in %s", show(x))
			}
			seen[place] = true
		}
		for _, part := range x.Sub {
			walk(part)
		}
	}
	walk(x)
}

// holders are the kinds that have parts, each with one of its parts being x, and the others x0, x1.
func holders(x api.Term) []api.Term {
	a, b := v("x0"), v("x1")
	out := []api.Term{
		lam("n", x), app(x, a), app(a, x), pair(x, a), pair(a, x), the(x, 7),
		choose(x, "n", a, "m", b), choose(a, "n", x, "m", b), choose(a, "n", b, "m", x), let("n", x, a), let("n", a, x),
	}
	for _, k := range heads() {
		out = append(out, of(k, x))
	}
	return out
}

// balanced is a term of all of these, joined by pairs, with as few levels as may be.
func balanced(l []api.Term) api.Term {
	if len(l) == 1 {
		return l[0]
	}
	return pair(balanced(l[:len(l)/2]), balanced(l[len(l)/2:]))
}

// sized is a term of so many nodes and few levels, of that name alone.
func sized(nodes int, name string) api.Term {
	if nodes%2 == 0 {
		return inl(sized(nodes-1, name)) // and not TFst, which meets a pair here
	}
	return balanced(slices.Repeat([]api.Term{v(name)}, (nodes+1)/2))
}

// tall is a term of so many levels: x, and TFst round it.
func tall(levels int, x api.Term) api.Term {
	for range levels - 1 {
		x = of(api.TFst, x)
	}
	return x
}

// read is the term of a text; its formulas are rows of the table behind.
func read(t *testing.T, f *formula.Table, text string) api.Term {
	t.Helper()
	x, fault := term.Parse(f, text)
	if fault != (api.Fault{}) {
		t.Fatalf("Parse(%q): fault %v", text, fault)
	}
	return x
}

// kept asks that a call leaves the table, the term and the way as they were.
func kept(t *testing.T, f *formula.Table, x api.Term, way []int, call func()) {
	t.Helper()
	rows, was, wasWay := f.Rows(), clone(x), slices.Clone(way)
	call()
	if !slices.Equal(f.Rows(), rows) || !alike(x, was) || !slices.Equal(way, wasWay) {
		t.Errorf("%v, %s, %v have become %v, %s, %v", rows, show(was), wasWay, f.Rows(), show(x), way)
	}
}

// does asks for that answer of Do, which shares no memory with what is handed in, or within itself.
func does(t *testing.T, f *formula.Table, x api.Term, way []int, want api.Term) {
	t.Helper()
	kept(t, f, x, way, func() {
		got, e := reduce.Do(f, x, way)
		if e != api.OK || !alike(got, want) {
			t.Errorf("Do(%s, %v): %s, error %d, not %s", show(x), way, show(got), e, show(want))
			return
		}
		own(t, got)
		spoil(got)
	})
}

// undone asks for that error of Do beside the zero term.
func undone(t *testing.T, f *formula.Table, x api.Term, way []int, want api.Errno) {
	t.Helper()
	kept(t, f, x, way, func() {
		if got, e := reduce.Do(f, x, way); e != want || !zero(got) {
			t.Errorf("Do(%s, %v): %s, error %d, not %d", show(x), way, show(got), e, want)
		}
	})
}

// finds asks for these ways of Redexes, and for what Normal tells then.
func finds(t *testing.T, f *formula.Table, x api.Term, want ...[]int) {
	t.Helper()
	kept(t, f, x, nil, func() {
		got, e := reduce.Redexes(f, x)
		if e != api.OK || !slices.EqualFunc(got, want, slices.Equal) {
			t.Errorf("Redexes(%s): %d ways, %v, error %d, not %v", show(x), len(got), got[:min(len(got), 20)], e, want[:min(len(want), 20)])
		}
		if normal, e := reduce.Normal(f, x); normal != (len(want) == 0) || e != api.OK {
			t.Errorf("Normal(%s): %v, error %d", show(x), normal, e)
		}
	})
}

// runs asks for that answer of Run, which shares no memory with what is handed in, or within itself.
func runs(t *testing.T, f *formula.Table, x api.Term, fuel int, want api.Term, many int, normal bool, code api.Errno) {
	t.Helper()
	kept(t, f, x, nil, func() {
		got, n, ok, e := reduce.Run(f, x, fuel)
		if !alike(got, want) || n != many || ok != normal || e != code {
			t.Errorf("Run(%s, %d): %s, %d times, %v, error %d, not %s, %d, %v, %d", show(x), fuel, show(got), n, ok, e, show(want), many, normal, code)
			return
		}
		own(t, got)
		spoil(got)
	})
}

// strips asks for that answer of Strip, which shares no memory with what is handed in, or within itself.
func strips(t *testing.T, x api.Term, want api.Term) {
	t.Helper()
	was := clone(x)
	got, e := reduce.Strip(x)
	if e != api.OK || !alike(got, want) {
		t.Errorf("Strip(%s): %s, error %d, not %s", show(x), show(got), e, show(want))
		return
	}
	own(t, got)
	spoil(got)
	if !alike(x, was) {
		t.Errorf("%s has become %s", show(was), show(x))
	}
}

// refused asks that each call with a table answers that error, and zeros beside it.
func refused(t *testing.T, f *formula.Table, x api.Term, want api.Errno) {
	t.Helper()
	kept(t, f, x, nil, func() {
		if l, e := reduce.Redexes(f, x); len(l) != 0 || e != want {
			t.Errorf("Redexes(%s): %v, error %d, not %d", show(x), l, e, want)
		}
		if normal, e := reduce.Normal(f, x); normal || e != want {
			t.Errorf("Normal(%s): %v, error %d, not %d", show(x), normal, e, want)
		}
		for _, fuel := range append(noFuels(), 0, 1, api.MaxFuel) {
			if got, n, normal, e := reduce.Run(f, x, fuel); !zero(got) || n != 0 || normal || e != want {
				t.Errorf("Run(%s, %d): %s, %d times, %v, error %d, not %d", show(x), fuel, show(got), n, normal, e, want)
			}
		}
	})
	for _, way := range [][]int{nil, {}, {0}, {1}, {-1}, {0, 0}, {math.MaxInt}} {
		undone(t, f, x, way, want)
	}
}

// noFuels are numbers that no fuel is.
func noFuels() []int {
	return []int{-1, -2, api.MaxFuel + 1, api.MaxFuel + 2, 1 << 32, 1<<32 + 1, math.MaxInt, math.MinInt, math.MinInt + 1}
}

// ways makes a list of ways.
func ways(l ...[]int) [][]int { return l }
