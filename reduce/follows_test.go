package reduce_test

import (
	"math/rand/v2"
	"slices"
	"testing"

	"dictum/api"
	"dictum/formula"
	"dictum/reduce"
	"dictum/term"
	"dictum/types"
)

// stillTaken asks for subject reduction behind each Do, and answers by which rows they were.
func stillTaken(t *testing.T, f *formula.Table, hyps []api.Hyp, x api.Term, form int) map[int]int {
	t.Helper()
	by := map[int]int{}
	told, e := types.Infer(f, hyps, x)
	for _, way := range whichFound(t, f, x) {
		y, refused := reduce.Do(f, x, way)
		if refused != api.OK {
			continue
		}
		by[reader{f.Rows()}.do(x, way).row]++
		if e := types.Check(f, hyps, y, form); e != api.OK {
			t.Fatalf("%v: %s at %v becomes %s, which is no more checked against %d: error %d", f.Rows(), show(x), way, show(y), form, e)
		}
		if still, other := types.Infer(f, hyps, y); e == api.OK && (still != told || other != api.OK) {
			t.Fatalf("%v: %s at %v becomes %s, which is told to be %d, error %d, not %d", f.Rows(), show(x), way, show(y), still, other, told)
		}
	}
	return by
}

// TestFollowsSubject: P14.5, what is checked or told is so behind each Do, and all along a run.
func TestFollowsSubject(t *testing.T) {
	chance := newChance(5)
	all := map[int]int{}
	for i := range 12000 {
		c := someProof(chance, i%2 == 0)
		f := made(t, c.rows...)
		x := c.x
		for fuel := range 12 {
			counted(all, stillTaken(t, f, c.hyps, x, c.form))
			next, many, normal, e := reduce.Run(f, c.x, fuel+1)
			if e != api.OK || normal && many <= fuel {
				break
			}
			x = next
		}
	}
	for _, row := range []int{2, 4, 6, 7, 8} {
		if all[row] < 200 {
			t.Errorf("row %d was met %d times", row, all[row])
		}
	}
}

// TestFollowsSubjectSmall: P14.5, the same of all small terms, at all formulas at which they are taken.
func TestFollowsSubjectSmall(t *testing.T) {
	f := made(t, bot(), join(api.KImp, 0, 0), join(api.KAnd, 0, 1), join(api.KOr, 0, 1), atom("p"))
	hyps := []api.Hyp{hyp("x", 2), hyp("y", 3)}
	taken := 0
	l := allTerms(5, []string{"x"}, 4)
	for nodes := range 4 {
		l = append(l, allTerms(nodes+1, []string{"x", "y"}, 4)...)
	}
	for _, x := range l {
		for form := range f.Len() {
			if types.Check(f, hyps, x, form) == api.OK {
				stillTaken(t, f, hyps, x, form)
				taken++
			}
		}
	}
	if taken < 300 {
		t.Errorf("%d terms were taken", taken)
	}
}

// closedProof is a proof by chance without hypotheses.
func closedProof(chance *rand.Rand) proven {
	for {
		p := &prover{chance: chance, rows: someRows(chance, 3+chance.IntN(12), 2), names: []string{"x", "y", "z"}, budget: 300}
		c := proven{rows: p.rows, form: chance.IntN(len(p.rows))}
		var ok bool
		if c.x, ok = p.proof(nil, c.form, 3+chance.IntN(6), chance.IntN(2) == 0); ok {
			return c
		}
	}
}

// canonical asks that a normal term that is checked against a formula without hypotheses is of the formula's kind, and answers that kind.
func canonical(t *testing.T, f *formula.Table, x api.Term, form int) api.Kind {
	t.Helper()
	if e := types.Check(f, nil, x, form); e != api.OK {
		t.Fatalf("%v: %s is not checked against %d: error %d", f.Rows(), show(x), form, e)
	}
	bare, e := reduce.Strip(x)
	if e != api.OK {
		t.Fatal(e)
	}
	n, _ := f.Node(form)
	want := map[api.Kind][]api.TermKind{api.KImp: {api.TLam}, api.KAnd: {api.TPair}, api.KOr: {api.TInl, api.TInr}}
	if !slices.Contains(want[n.Kind], bare.Kind) {
		t.Fatalf("%v: %s is normal, and of %v", f.Rows(), show(x), n)
	}
	return n.Kind
}

// TestFollowsCanonical: P14.5, canonical forms of proofs by chance.
func TestFollowsCanonical(t *testing.T) {
	chance := newChance(6)
	met := map[api.Kind]int{}
	reduced := 0
	for range 4000 {
		c := closedProof(chance)
		f := made(t, c.rows...)
		x, many, normal, e := reduce.Run(f, c.x, api.MaxFuel)
		if e != api.OK || !normal {
			continue
		}
		met[canonical(t, f, x, c.form)]++
		if many > 2 {
			reduced++
		}
	}
	for _, k := range []api.Kind{api.KAnd, api.KOr, api.KImp} {
		if met[k] < 40 {
			t.Errorf("%d of kind %d", met[k], k)
		}
	}
	if reduced < 100 {
		t.Errorf("%d were reduced", reduced)
	}
}

// TestFollowsCanonicalSmall: P14.5, canonical forms among all small terms.
func TestFollowsCanonicalSmall(t *testing.T) {
	f := made(t, bot(), join(api.KImp, 0, 0), join(api.KAnd, 1, 1), join(api.KOr, 0, 1), atom("p"))
	met := map[api.Kind]int{}
	for nodes := range 5 {
		for _, x := range allTerms(nodes+1, []string{"x"}, 4) {
			normal, e := reduce.Normal(f, x)
			for form := range f.Len() {
				if e == api.OK && normal && types.Check(f, nil, x, form) == api.OK {
					met[canonical(t, f, x, form)]++
				}
			}
		}
	}
	if met[api.KImp] == 0 || met[api.KAnd] == 0 || met[api.KOr] == 0 {
		t.Error(met)
	}
}

// bareWay is the way to the same place in what Strip makes of a term.
func bareWay(x api.Term, way []int) []int {
	var out []int
	for _, place := range way {
		if x.Kind != api.TThe {
			out = append(out, place)
		}
		x = x.Sub[place]
	}
	return out
}

// bare is Strip where it is not refused.
func bare(t *testing.T, x api.Term) api.Term {
	t.Helper()
	y, e := reduce.Strip(x)
	if e != api.OK {
		t.Fatalf("Strip(%s): error %d", show(x), e)
	}
	return y
}

// TestFollowsStrip: P14.5, Strip behind each Do, and that nothing becomes free.
func TestFollowsStrip(t *testing.T) {
	chance := newChance(7)
	all := map[int]int{}
	rowOf := map[int]int{1: 1, 2: 1, 3: 3, 4: 3, 5: 5, 6: 5, 7: 7}
	for range 4000 {
		f := made(t, someRows(chance, 1+chance.IntN(12), 2)...)
		p := &prover{chance: chance, rows: f.Rows(), names: []string{"x", "y", "v0", "z"}}
		x := loaded(p, 2+chance.IntN(6))
		free, _ := term.Free(x)
		for _, way := range whichFound(t, f, x) {
			y, e := reduce.Do(f, x, way)
			if e != api.OK {
				t.Fatalf("Do(%s, %v): error %d", show(x), way, e)
			}
			still, _ := term.Free(y)
			for _, name := range still {
				if !slices.Contains(free, name) {
					t.Fatalf("%s is free in what %s becomes at %v", name, show(x), way)
				}
			}
			row := reader{f.Rows()}.do(x, way).row
			all[row]++
			if row == 8 {
				if !alike(bare(t, x), bare(t, y)) {
					t.Fatalf("%s at %v becomes %s by row 8", show(x), way, show(y))
				}
				continue
			}
			place := bareWay(x, way)
			other := reader{f.Rows()}.do(bare(t, x), place)
			z, e := reduce.Do(f, bare(t, x), place)
			if e != api.OK || other.row != rowOf[row] || !term.Alpha(bare(t, y), z) {
				t.Fatalf("%s at %v becomes %s by row %d; without formulas %s, error %d, by row %d", show(x), way, show(y), row, show(z), e, other.row)
			}
		}
	}
	enough(t, all, 300)
}

// TestFollowsNormal: Normal is whether Redexes has none, and a run of a term ends just where it is so.
func TestFollowsNormal(t *testing.T) {
	chance := newChance(8)
	for range 2000 {
		f := made(t, someRows(chance, 1+chance.IntN(12), 2)...)
		p := &prover{chance: chance, rows: f.Rows(), names: []string{"x", "y", "z"}}
		x, many, normal, e := reduce.Run(f, loaded(p, 2+chance.IntN(6)), 50)
		if e != api.OK {
			continue
		}
		if got, _ := reduce.Normal(f, x); got != normal || !normal && many != 50 {
			t.Fatalf("%s: normal %v, run %v after %d times", show(x), got, normal, many)
		}
		if normal {
			finds(t, f, x)
		}
		if s := bare(t, x); !alike(bare(t, s), s) || term.Size(s) > term.Size(x) {
			t.Fatalf("Strip of %s: %s", show(x), show(s))
		}
	}
}

// TestStrip: P14.4, formulas beside all parts, one and several round each.
func TestStrip(t *testing.T) {
	f := rowTable(t)
	strips(t, read(t, f, "(x : p)"), v("x"))
	strips(t, read(t, f, "(((x : p) : q) : false)"), v("x"))
	strips(t, read(t, f, "((fun x => (x : p)) : p -> p) (y : p)"), read(t, f, "(fun x => x) y"))
	strips(t, read(t, f, "(case (a : p | q) of x => (x : p) | y => ((y : q) : p) : p)"), read(t, f, "case a of x => x | y => y"))
	strips(t, read(t, f, "let x = (a : p) in (x : p)"), read(t, f, "let x = a in x"))
	for _, x := range holders(v("x")) {
		want := strip(x)
		strips(t, x, want)
		strips(t, the(x, 3), want)
		for _, y := range holders(the(the(x, 1023), 0)) {
			strips(t, y, strip(y))
		}
	}
	deep := v("x")
	for range api.MaxDeep - 1 {
		deep = the(deep, api.MaxForms-1)
	}
	strips(t, deep, v("x"))
	strips(t, sized(api.MaxTerm, "x"), sized(api.MaxTerm, "x"))
}
