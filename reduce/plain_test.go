package reduce_test

import (
	"slices"
	"testing"

	"dictum/api"
	"dictum/formula"
	"dictum/reduce"
	"dictum/term"
)

// whichFound is what Redexes answers.
func whichFound(t *testing.T, f *formula.Table, x api.Term) [][]int {
	t.Helper()
	l, e := reduce.Redexes(f, x)
	if e != api.OK {
		t.Fatalf("Redexes(%s): error %d", show(x), e)
	}
	return l
}

// outcome is what a term becomes: by which row (0: by none), and the term, or the error of Put.
type outcome struct {
	row  int
	x    api.Term
	code api.Errno
}

// reader reads the chapter's table as it stands there.
type reader struct{ rows []api.Node }

func (r reader) put(row int, a api.Term, name string, b api.Term) outcome {
	x, e := term.Put(a, name, b)
	return outcome{row, x, e}
}

// becomes is P14.1.
func (r reader) becomes(x api.Term) outcome {
	if x.Kind == api.TLet {
		return r.put(7, x.Sub[1], x.Name, x.Sub[0])
	}
	if len(x.Sub) == 0 {
		return outcome{}
	}
	a := x.Sub[0]
	if x.Kind == api.TThe {
		switch a.Kind {
		case api.TVar, api.TApp, api.TFst, api.TSnd, api.TThe:
			return outcome{row: 8, x: a}
		}
		return outcome{}
	}
	if a.Kind == api.TThe {
		return r.beside(x, a.Sub[0], r.rows[a.Form])
	}
	switch {
	case x.Kind == api.TApp && a.Kind == api.TLam:
		return r.put(1, a.Sub[0], a.Name, x.Sub[1])
	case x.Kind == api.TFst && a.Kind == api.TPair:
		return outcome{row: 3, x: a.Sub[0]}
	case x.Kind == api.TSnd && a.Kind == api.TPair:
		return outcome{row: 3, x: a.Sub[1]}
	case x.Kind == api.TCase && a.Kind == api.TInl:
		return r.put(5, x.Sub[1], x.Name, a.Sub[0])
	case x.Kind == api.TCase && a.Kind == api.TInr:
		return r.put(5, x.Sub[2], x.Other, a.Sub[0])
	}
	return outcome{}
}

// beside is P14.1 of a term whose first part is a, with that formula beside.
func (r reader) beside(x, a api.Term, n api.Node) outcome {
	switch {
	case x.Kind == api.TApp && a.Kind == api.TLam && n.Kind == api.KImp:
		out := r.put(2, a.Sub[0], a.Name, the(x.Sub[1], n.L))
		out.x = the(out.x, n.R)
		return out
	case x.Kind == api.TFst && a.Kind == api.TPair && n.Kind == api.KAnd:
		return outcome{row: 4, x: the(a.Sub[0], n.L)}
	case x.Kind == api.TSnd && a.Kind == api.TPair && n.Kind == api.KAnd:
		return outcome{row: 4, x: the(a.Sub[1], n.R)}
	case x.Kind == api.TCase && a.Kind == api.TInl && n.Kind == api.KOr:
		return r.put(6, x.Sub[1], x.Name, the(a.Sub[0], n.L))
	case x.Kind == api.TCase && a.Kind == api.TInr && n.Kind == api.KOr:
		return r.put(6, x.Sub[2], x.Other, the(a.Sub[0], n.R))
	}
	return outcome{}
}

// ways is P14.2's Redexes, without its end.
func (r reader) ways(x api.Term) [][]int {
	var out [][]int
	if r.becomes(x).row > 0 {
		out = append(out, nil)
	}
	for i, part := range x.Sub {
		for _, way := range r.ways(part) {
			out = append(out, append([]int{i}, way...))
		}
	}
	return out
}

// do is P14.2's Do but for what is too large in the whole: by which row, and the term or the error.
func (r reader) do(x api.Term, way []int) outcome {
	if len(way) == 0 {
		out := r.becomes(x)
		if out.row == 0 {
			out.code = api.ErrRedex
		}
		return out
	}
	if way[0] < 0 || way[0] >= len(x.Sub) {
		return outcome{code: api.ErrRedex}
	}
	out := r.do(x.Sub[way[0]], way[1:])
	x = clone(x)
	x.Sub[way[0]], out.x = out.x, x
	return out
}

// whole is P14.2's Do.
func (r reader) whole(x api.Term, way []int) outcome {
	out := r.do(x, way)
	if out.code == api.OK && (nodes(out.x) > api.MaxTerm || levels(out.x) > api.MaxDeep) {
		out.code = api.ErrLarge
	}
	if out.code != api.OK {
		out.x = api.Term{}
	}
	return out
}

func nodes(x api.Term) int {
	many := 1
	for _, part := range x.Sub {
		many += nodes(part)
	}
	return many
}

func levels(x api.Term) int {
	deepest := 0
	for _, part := range x.Sub {
		deepest = max(deepest, levels(part))
	}
	return deepest + 1
}

// run is P14.3.
func (r reader) run(x api.Term, fuel int) (api.Term, int, bool, api.Errno) {
	for done := range fuel {
		l := r.ways(x)
		if len(l) == 0 {
			return x, done, true, api.OK
		}
		out := r.whole(x, l[0])
		if out.code != api.OK {
			return x, done, false, out.code
		}
		x = out.x
	}
	return x, fuel, len(r.ways(x)) == 0, api.OK
}

// strip is P14.4.
func strip(x api.Term) api.Term {
	if x.Kind == api.TThe {
		return strip(x.Sub[0])
	}
	x = clone(x)
	for i := range x.Sub {
		x.Sub[i] = strip(x.Sub[i])
	}
	return x
}

// places are the ways to all parts of a term, and some that lead to none.
func places(x api.Term) [][]int {
	out := [][]int{nil, {-1}, {len(x.Sub)}}
	for i, part := range x.Sub {
		for _, way := range places(part) {
			out = append(out, append([]int{i}, way...))
		}
	}
	return out
}

// asPlain asks that all calls answer what the plain reading does, and answers by which rows parts could be reduced.
func asPlain(t *testing.T, f *formula.Table, x api.Term, fuel int) map[int]int {
	t.Helper()
	r := reader{f.Rows()}
	finds(t, f, x, r.ways(x)...)
	by := map[int]int{}
	for _, way := range places(x) {
		out := r.whole(x, way)
		by[out.row]++
		if out.code == api.OK {
			does(t, f, x, way, out.x)
		} else {
			undone(t, f, x, way, out.code)
		}
	}
	want, many, normal, code := r.run(x, fuel)
	runs(t, f, x, fuel, want, many, normal, code)
	strips(t, x, strip(x))
	return by
}

// counted adds up how often each row was met.
func counted(all map[int]int, by map[int]int) {
	for row, many := range by {
		all[row] += many
	}
}

// enough asks that each row was met so often.
func enough(t *testing.T, all map[int]int, many int) {
	t.Helper()
	for row := 1; row <= 8; row++ {
		if all[row] < many {
			t.Errorf("row %d was met %d times", row, all[row])
		}
	}
}

// TestPlainSmall: all small terms.
func TestPlainSmall(t *testing.T) {
	f := made(t, bot(), join(api.KImp, 0, 0), join(api.KAnd, 0, 1), join(api.KOr, 1, 0))
	l := allTerms(5, []string{"x"}, 4)
	for nodes := range 4 {
		l = append(l, allTerms(nodes+1, []string{"x", "y"}, 4)...)
	}
	for _, x := range l {
		asPlain(t, f, x, 6)
		if t.Failed() {
			return
		}
	}
}

// TestPlainChance: terms by chance.
func TestPlainChance(t *testing.T) {
	chance := newChance(1)
	for range 6000 {
		f := made(t, someRows(chance, 1+chance.IntN(12), 2)...)
		x := someTerm(chance, 2+chance.IntN(5), []string{"x", "y", "v0"}, f.Len())
		asPlain(t, f, x, chance.IntN(40))
		if t.Failed() {
			return
		}
	}
}

// redex is a term by chance that a row, by chance, says something of, as far as the table has such a formula.
func redex(p *prover, levels int) api.Term {
	part := func() api.Term { return loaded(p, levels-1) }
	beside := func(x api.Term, k api.Kind) api.Term {
		if p.chance.IntN(3) == 0 {
			x = let("w", v("w"), x) // which must be reduced ahead of what is round it
		}
		if id, ok := p.row(func(n api.Node) bool { return n.Kind == k }); ok && p.chance.IntN(2) == 0 {
			return the(x, id)
		}
		return x
	}
	switch p.chance.IntN(7) {
	case 0, 1:
		return app(beside(lam(p.name(), part()), api.KImp), part())
	case 2:
		return of(api.TFst+api.TermKind(p.chance.IntN(2)), beside(pair(part(), part()), api.KAnd))
	case 3, 4:
		return choose(beside(of(api.TInl+api.TermKind(p.chance.IntN(2)), part()), api.KOr), p.name(), part(), p.name(), part())
	case 5:
		return let(p.name(), part(), part())
	}
	return the(part(), p.chance.IntN(len(p.rows)))
}

// loaded is a term by chance in which much can be reduced.
func loaded(p *prover, levels int) api.Term {
	if levels < 3 || p.chance.IntN(3) == 0 {
		return someTerm(p.chance, max(levels, 1), p.names, len(p.rows))
	}
	return redex(p, levels)
}

// TestPlainLoaded: terms by chance in which much can be reduced.
func TestPlainLoaded(t *testing.T) {
	chance := newChance(2)
	all := map[int]int{}
	longest := 0
	for range 1500 {
		f := made(t, someRows(chance, 1+chance.IntN(12), 2)...)
		p := &prover{chance: chance, rows: f.Rows(), names: []string{"x", "y", "v0", "z"}}
		x := loaded(p, 2+chance.IntN(6))
		if nodes(x) > 200 {
			continue
		}
		counted(all, asPlain(t, f, x, chance.IntN(60)))
		_, many, _, _ := reduce.Run(f, x, 60)
		longest = max(longest, many)
		if t.Failed() {
			return
		}
	}
	enough(t, all, 100)
	if longest < 20 {
		t.Errorf("no run of more than %d times", longest)
	}
}

// TestPlainRun: the steps of a run, one by one, are those of Do of the first of Redexes.
func TestPlainRun(t *testing.T) {
	chance := newChance(3)
	ended := 0
	for range 1500 {
		f := made(t, someRows(chance, 1+chance.IntN(12), 2)...)
		p := &prover{chance: chance, rows: f.Rows(), names: []string{"x", "y", "z"}}
		x := loaded(p, 3+chance.IntN(6))
		y := x
		for fuel := range 30 {
			l := whichFound(t, f, y)
			runs(t, f, x, fuel, y, fuel, len(l) == 0, api.OK)
			if len(l) == 0 {
				runs(t, f, x, fuel+1, y, fuel, true, api.OK)
				runs(t, f, x, api.MaxFuel, y, fuel, true, api.OK)
				ended++
				break
			}
			next, e := reduce.Do(f, y, l[0])
			if e != api.OK {
				runs(t, f, x, fuel+1, y, fuel, false, e)
				break
			}
			y = next
		}
	}
	if ended < 500 {
		t.Errorf("%d runs came to an end", ended)
	}
}

// TestSame: R4 and R8, the same call on the same arguments answers the same, whatever was called between.
func TestSame(t *testing.T) {
	chance := newChance(4)
	for range 200 {
		f := made(t, someRows(chance, 1+chance.IntN(12), 2)...)
		p := &prover{chance: chance, rows: f.Rows(), names: []string{"x", "y", "z"}}
		x, y := loaded(p, 6), loaded(p, 6)
		first := whichFound(t, f, x)
		a, n, normal, e := reduce.Run(f, x, 20)
		for range 3 {
			whichFound(t, f, y)
			reduce.Run(f, y, 20)
			if l := whichFound(t, f, x); !slices.EqualFunc(l, first, slices.Equal) {
				t.Errorf("%v, not %v", l, first)
			}
			runs(t, f, x, 20, a, n, normal, e)
		}
	}
}
