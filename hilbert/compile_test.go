package hilbert_test

import (
	"slices"
	"strings"
	"testing"

	"dictum/api"
	"dictum/formula"
	"dictum/hilbert"
	"dictum/types"
)

// compiles holds Compile against the plain reading: lines, rows and error, which is answered.
func compiles(t *testing.T, f *formula.Table, hyps []api.Hyp, x api.Term, id int) ([]api.Line, api.Errno) {
	t.Helper()
	was := f.Rows()
	want, rows, wantE := plainCompile(t, f, hyps, x, id)
	wasHyps, wasTerm := slices.Clone(hyps), clone(x)
	got, e := hilbert.Compile(f, hyps, x, id)
	if e != wantE || !slices.Equal(got, want) {
		t.Fatalf("Compile(%v, %s, %d) of %v: %s, error %d, not %s, error %d", hyps, show(x), id, was, showLines(got), e, showLines(want), wantE)
	}
	if !slices.Equal(f.Rows(), rows) {
		t.Fatalf("Compile(%v, %s, %d), error %d: rows %v, not %v", hyps, show(x), id, e, f.Rows(), rows)
	}
	if !slices.Equal(hyps, wasHyps) || !alike(x, wasTerm) {
		t.Fatalf("%v, %s have become %v, %s", wasHyps, show(wasTerm), hyps, show(x))
	}
	return got, e
}

// lineKinds are the kinds of lines by their names.
func lineKinds(lines []api.Line) string {
	var out []string
	for _, l := range lines {
		out = append(out, []string{"", "K", "S", "Fst", "Snd", "Pair", "Inl", "Inr", "Case", "Bot", "hyp", "mp"}[l.Kind])
	}
	return strings.Join(out, " ")
}

// TestCompileEach: P16.4, a term of each kind by hand: the kinds of the lines, and the numbers of what follows.
func TestCompileEach(t *testing.T) {
	const itself = "S K mp K mp"
	for _, c := range []struct {
		hyps, term, form string // hyps: names with formulas
		kinds            string
		last             api.Line // Form is not asked
	}{
		{"x: p", "x", "p", "hyp", api.Line{Kind: api.LineHyp}},
		{"x: p", "(x : p)", "p", "hyp", api.Line{Kind: api.LineHyp}},
		{"", "fun x => x", "p -> p", itself, mp(0, 2, 3)},
		{"", "fun x => ((x : p) : p)", "p -> p", itself, mp(0, 2, 3)},
		{"y: q", "fun x => y", "p -> q", "hyp K mp", mp(0, 1, 0)},
		{"f: p -> q, x: p", "f x", "q", "hyp hyp mp", mp(0, 0, 1)},
		{"f: p -> p, x: p", "f (f x)", "p", "hyp hyp hyp mp mp", mp(0, 0, 3)},
		{"f: p -> p -> q, x: p", "f x x", "q", "hyp hyp mp hyp mp", mp(0, 2, 3)},
		{"x: p, y: q", "(x, y)", "p & q", "hyp hyp Pair mp mp", mp(0, 3, 1)},
		{"x: p, f: p -> q", "(f x, x)", "q & p", "hyp hyp mp hyp Pair mp mp", mp(0, 5, 3)},
		{"x: p & q", "fst x", "p", "hyp Fst mp", mp(0, 1, 0)},
		{"x: p & q", "snd x", "q", "hyp Snd mp", mp(0, 1, 0)},
		{"x: p", "inl x", "p | q", "hyp Inl mp", mp(0, 1, 0)},
		{"x: q", "inr x", "p | q", "hyp Inr mp", mp(0, 1, 0)},
		{"x: false", "abort x", "p", "hyp Bot mp", mp(0, 1, 0)},
		{"f: ~p, x: p", "abort (f x)", "q", "hyp hyp mp Bot mp", mp(0, 3, 2)},
		{"x: p | q, r: r", "case x of y => r | z => r", "r", "hyp hyp K mp hyp K mp Case mp mp mp", mp(0, 9, 0)},
		{"x: p | p", "case x of y => y | z => z", "p", "hyp " + itself + " " + itself + " Case mp mp mp", mp(0, 13, 0)},
		{"x: p | q", "case x of y => inr y | z => inl z", "q | p",
			"hyp " + itself + " Inr K mp S mp mp " + itself + " Inl K mp S mp mp Case mp mp mp", mp(0, 25, 0)},
		{"x: p", "let y = x in y", "p", "hyp " + itself + " mp", mp(0, 5, 0)},
		{"x: p, z: q", "let y = x in z", "q", "hyp hyp K mp mp", mp(0, 3, 0)},
		{"x: p, z: q", "let x = z in x", "q", "hyp " + itself + " mp", mp(0, 5, 0)},
	} {
		f := formula.New()
		hyps := readHyps(t, f, c.hyps)
		x := readTerm(t, f, c.term)
		id := read(t, f, c.form)
		lines, e := compiles(t, f, hyps, x, id)
		if e != api.OK || lineKinds(lines) != c.kinds {
			t.Fatalf("%s: %s, error %d, not %s", c.term, lineKinds(lines), e, c.kinds)
		}
		c.last.Form = id
		if last := lines[len(lines)-1]; last != c.last {
			t.Errorf("%s: %v, not %v", c.term, last, c.last)
		}
		rightTells(t, f, forms(hyps), lines, id)
	}
}

// readHyps are hypotheses of a text, whose formulas become rows.
func readHyps(t *testing.T, f *formula.Table, text string) []api.Hyp {
	t.Helper()
	var out []api.Hyp
	for _, one := range strings.Split(text, ", ") {
		if name, form, ok := strings.Cut(one, ": "); ok {
			out = append(out, named(name, read(t, f, form)))
		}
	}
	return out
}

// TestCompileRows: P16.4, the rows of some terms, in their order.
func TestCompileRows(t *testing.T) {
	for _, c := range []struct {
		hyps, term, form string
		rows             []string // those that are made
	}{
		{"x: p, y: q", "(x, y)", "p & q", []string{"q -> p & q", "p -> (q -> p & q)"}},
		{"x: p & q", "snd x", "q", []string{"p & q -> q"}},
		{"x: q", "inr x", "p | q", []string{"q -> p | q"}},
		{"x: false", "abort x", "p", []string{"false -> p"}},
		{"y: q", "fun x => y", "p -> q", []string{"q -> (p -> q)"}},
		{"x: p | q, r: r", "case x of y => r | z => r", "r", []string{
			"p -> r", "r -> (p -> r)", "q -> r", "r -> (q -> r)",
			"p | q -> r", "(q -> r) -> (p | q -> r)", "(p -> r) -> ((q -> r) -> (p | q -> r))",
		}},
		{"x: p, z: q", "let y = x in z", "q", []string{"p -> q", "q -> (p -> q)"}},
		{"x: p", "let y = x in y", "p", []string{
			"p -> p", "(p -> p) -> p", "p -> ((p -> p) -> p)", "p -> (p -> p)", "(p -> (p -> p)) -> (p -> p)",
			"(p -> ((p -> p) -> p)) -> ((p -> (p -> p)) -> (p -> p))",
		}},
		{"f: p -> q, x: p", "f x", "q", nil},
	} {
		f := formula.New()
		hyps := readHyps(t, f, c.hyps)
		x := readTerm(t, f, c.term)
		id := read(t, f, c.form)
		want := f.Copy()
		for _, text := range c.rows {
			read(t, want, text)
		}
		if want.Len() != f.Len()+len(c.rows) {
			t.Fatalf("%s: %v", c.term, want.Rows())
		}
		if _, e := compiles(t, f, hyps, x, id); e != api.OK || !slices.Equal(f.Rows(), want.Rows()) {
			t.Errorf("%s: error %d, rows %v, not %v", c.term, e, f.Rows(), want.Rows())
		}
	}
}

// TestCompileNames: P16.4, a name stands for the last hypothesis that has it, and for what a part around gives it, within that part alone.
func TestCompileNames(t *testing.T) {
	for _, c := range []struct{ hyps, term, form string }{
		{"x: p, x: q", "x", "q"},
		{"x: q, x: p, x: q", "x", "q"},
		{"x: p", "(let x = inl' in x, x)", "r & p"},
		{"x: p, y: q", "((let x = y in x), x)", "q & p"},
		{"x: p, y: q, w: q | p", "((case w of x => y | y => let z = x in y' : q), (x, y))", "q & (p & q)"},
		{"x: p, y: q, w: p | q", "(case w of x => inl x | x => inr x, x)", "(p | q) & p"},
		{"x: p, y: q", "((fun x => x), x)", "(q -> q) & p"},
		{"y: q", "((fun x => y : p -> q), (fun x => x : r -> r))", "(p -> q) & (r -> r)"},
	} {
		f := formula.New()
		hyps := readHyps(t, f, c.hyps+", inl': r, y': q")
		x := readTerm(t, f, c.term)
		id := read(t, f, c.form)
		lines, e := compiles(t, f, hyps, x, id)
		if e != api.OK {
			t.Errorf("%s: error %d", c.term, e)
			continue
		}
		rightTells(t, f, forms(hyps), lines, id)
	}
}

// TestCompileChance: P16.4, of terms by chance, all kinds, and of what layer 13 refuses.
func TestCompileChance(t *testing.T) {
	chance := newChance(5)
	many := map[api.Errno]int{}
	kinds := map[api.TermKind]int{}
	longest := 0
	for range 9000 {
		c := someProof(chance, 7)
		f := made(t, c.rows...)
		lines, e := compiles(t, f, c.hyps, c.x, c.form)
		many[e]++
		longest = max(longest, len(lines))
		if e == api.OK {
			rightTells(t, f, forms(c.hyps), lines, c.form)
			kinds[c.x.Kind]++
		}
		f = made(t, c.rows...)
		id := chance.IntN(f.Len() + 1)
		_, e = compiles(t, f, c.hyps[1:], c.x, id)
		many[e]++
	}
	for _, e := range []api.Errno{api.OK, api.ErrForm, api.ErrType, api.ErrName} {
		if many[e] < 50 {
			t.Errorf("error %d: %d times", e, many[e])
		}
	}
	for k := api.TVar; k <= api.TLet; k++ {
		if kinds[k] < 50 {
			t.Errorf("%d terms of kind %d", kinds[k], k)
		}
	}
	if longest < 500 {
		t.Errorf("no more than %d lines", longest)
	}
}

// TestCompileRoom: P16.4, with room for each number of rows: what is made fits just so, or is ErrForms, and the table is as it was.
func TestCompileRoom(t *testing.T) {
	chance := newChance(6)
	many := map[api.Errno]int{}
	for range 150 {
		c := someProof(chance, 5)
		f := made(t, c.rows...)
		_, e := hilbert.Compile(f, c.hyps, c.x, c.form)
		need := f.Len() - len(c.rows)
		if e != api.OK || need > 60 {
			continue
		}
		for room := range need + 2 {
			_, e := compiles(t, filled(t, c.rows, api.MaxForms-room), c.hyps, c.x, c.form)
			if e == api.OK != (room >= need) {
				t.Fatalf("%d rows, room for %d: error %d", need, room, e)
			}
			many[e]++
		}
	}
	if many[api.OK] < 100 || many[api.ErrForms] < 500 || len(many) != 2 {
		t.Error(many)
	}
}

// TestCompileRefused: P16.4, layer 13's error of x at id under hyps, whatever it is.
func TestCompileRefused(t *testing.T) {
	f := rowsOf(t, "p", "q", "p & q", "p & q -> p", "p | q")
	good := lam("x", of(api.TFst, v("x")))
	for _, id := range append(noForms(), 5) {
		uncompiled(t, f, nil, good, id, api.ErrForm)
		uncompiled(t, f, nil, api.Term{}, id, api.ErrForm)
		uncompiled(t, f, []api.Hyp{named("y", id)}, good, 3, api.ErrForm)
		uncompiled(t, f, []api.Hyp{named("y", id), named("y", 0)}, api.Term{}, 3, api.ErrForm)
	}
	for _, x := range []api.Term{{}, {Kind: 13}, {Kind: -1}, v(""), v("let"), of(api.TFst), lam("", v("x")), the(v("x"), -1), the(v("x"), 1024), of(api.TApp, good, good, good)} {
		uncompiled(t, f, nil, x, 3, api.ErrTerm)
	}
	uncompiled(t, f, nil, good, 2, api.ErrType)
	uncompiled(t, f, nil, lam("x", of(api.TSnd, v("x"))), 3, api.ErrType)
	uncompiled(t, f, nil, lam("x", v("y")), 3, api.ErrName)
	uncompiled(t, f, nil, lam("x", of(api.TFst, good)), 3, api.ErrUnsaid)
	uncompiled(t, f, []api.Hyp{named("y", 0)}, the(v("y"), 7), 0, api.ErrForm)
	uncompiled(t, f, []api.Hyp{named("w", 4)}, choose(v("w"), "x", v("x"), "y", v("y")), 0, api.ErrType)
	deep := v("x")
	for range api.MaxDeep - 1 {
		deep = the(deep, 0)
	}
	lines, e := compiles(t, f, []api.Hyp{named("x", 0)}, deep, 0)
	if e != api.OK || !slices.Equal(lines, []api.Line{hyp(0)}) {
		t.Errorf("%s, error %d", showLines(lines), e)
	}
	uncompiled(t, f, []api.Hyp{named("x", 0)}, the(deep, 0), 0, api.ErrLarge)
	uncompiled(t, f, []api.Hyp{named("x", 0)}, the(deep, 0), 9, api.ErrForm)
	wide := lam("x", v("x"))
	for range 20 {
		wide = of(api.TPair, wide, wide)
	}
	if _, e := hilbert.Compile(f, nil, wide, 0); e != api.ErrLarge {
		t.Error(e)
	}
}

// TestCompileFullTable: P16.4, what needs no new row is made in a full table.
func TestCompileFullTable(t *testing.T) {
	f := filled(t, rowsOf(t, "p", "q", "p -> q", "p & q", "p & q -> q").Rows(), api.MaxForms)
	hyps := []api.Hyp{named("f", 2), named("x", 0), named("y", 3), named("z", 1023)}
	for _, c := range []struct {
		x    api.Term
		id   int
		want []api.Line
	}{
		{v("z"), 1023, []api.Line{hyp(1023)}},
		{of(api.TApp, v("f"), v("x")), 1, []api.Line{hyp(2), hyp(0), mp(1, 0, 1)}},
		{of(api.TSnd, v("y")), 1, []api.Line{hyp(3), line(api.LineSnd, 4), mp(1, 1, 0)}},
	} {
		lines, e := compiles(t, f, hyps, c.x, c.id)
		if e != api.OK || !slices.Equal(lines, c.want) {
			t.Errorf("%s, error %d", showLines(lines), e)
		}
	}
	uncompiled(t, f, hyps, of(api.TFst, v("y")), 0, api.ErrForms)
	uncompiled(t, f, hyps, let("u", v("x"), v("u")), 0, api.ErrForms)
}

// TestCompileManyHyps: P16.4, many hypotheses, the last of a name counts.
func TestCompileManyHyps(t *testing.T) {
	f := rowsOf(t, "p", "q")
	hyps := make([]api.Hyp, 100000)
	for i := range hyps {
		hyps[i] = named("x", i%2)
	}
	if lines, e := hilbert.Compile(f, hyps, v("x"), 1); e != api.OK || !slices.Equal(lines, []api.Line{hyp(1)}) {
		t.Error(showLines(lines), e)
	}
	if e := types.Check(f, hyps, v("x"), 0); e != api.ErrType {
		t.Error(e)
	}
}
