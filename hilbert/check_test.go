package hilbert_test

import (
	"math"
	"math/rand/v2"
	"slices"
	"testing"

	"dictum/api"
	"dictum/formula"
	"dictum/hilbert"
)

// ruleRows are p, q, p & q, an axiom of each scheme, and what they are made of.
func ruleRows(t *testing.T) (*formula.Table, []int) {
	t.Helper()
	f := rowsOf(t, "p", "q", "p & q", "p -> q")
	var ids []int
	for _, text := range []string{
		"p -> (q -> p)", "(p -> (q -> p)) -> ((p -> q) -> (p -> p))", "p & q -> p", "p & q -> q", "p -> (q -> p & q)",
		"p -> p | q", "q -> p | q", "(p -> q) -> ((q -> q) -> (p | q -> q))", "false -> p",
	} {
		ids = append(ids, read(t, f, text))
	}
	return f, ids
}

// TestRightAxioms: P16.2, a line of each axiom is right alone, whatever the hypotheses are, and of that kind alone.
func TestRightAxioms(t *testing.T) {
	f, ids := ruleRows(t)
	for i, id := range ids {
		k := axiomKinds()[i]
		for _, hyps := range [][]int{nil, {}, {0}, {id}, {0, 1, 2, 3}} {
			rightTells(t, f, hyps, []api.Line{line(k, id)}, id)
			rightTells(t, f, hyps, []api.Line{line(k, id), line(axiomKinds()[0], ids[0])}, ids[0])
		}
		for _, other := range append(axiomKinds(), noAxioms()...) {
			if other != k && other != api.LineHyp {
				wrong(t, f, []int{id}, []api.Line{line(other, id)}, 0, api.ErrProof)
			}
		}
		for _, form := range []int{0, 1, 2, 3} {
			wrong(t, f, []int{form}, []api.Line{line(k, form)}, 0, api.ErrProof)
		}
		for _, n := range []int{1, -1, 2, math.MaxInt, math.MinInt} {
			wrong(t, f, nil, []api.Line{{Kind: k, Form: id, A: n}}, 0, api.ErrProof)
			wrong(t, f, nil, []api.Line{{Kind: k, Form: id, B: n}}, 0, api.ErrProof)
			wrong(t, f, nil, []api.Line{{Kind: k, Form: id}, {Kind: k, Form: id, A: n}}, 0, api.ErrProof)
			wrong(t, f, nil, []api.Line{{Kind: k, Form: id}, {Kind: k, Form: id, B: n}}, 0, api.ErrProof)
		}
	}
}

// TestRightHyps: P16.2, a hypothesis must be one, and has no A and B.
func TestRightHyps(t *testing.T) {
	f, _ := ruleRows(t)
	last := f.Len() - 1
	for _, hyps := range [][]int{{0}, {1, 0}, {0, 0, 0}, {3, 2, 0, 1}, {last, 0}} {
		rightTells(t, f, hyps, []api.Line{hyp(0)}, 0)
		rightTells(t, f, hyps, []api.Line{hyp(0), hyp(0), hyp(0)}, 0)
		for _, n := range []int{1, -1, math.MaxInt, math.MinInt} {
			wrong(t, f, hyps, []api.Line{hyp(0), {Kind: api.LineHyp, Form: 0, A: n}}, 0, api.ErrProof)
			wrong(t, f, hyps, []api.Line{hyp(0), {Kind: api.LineHyp, Form: 0, B: n}}, 0, api.ErrProof)
		}
	}
	rightTells(t, f, []int{last, 0}, []api.Line{hyp(0), hyp(last)}, last)
	for _, hyps := range [][]int{nil, {}, {1}, {1, 2, 3, 1}, {last}} {
		wrong(t, f, hyps, []api.Line{hyp(0)}, 0, api.ErrProof)
		wrong(t, f, append(hyps, 2), []api.Line{hyp(2), hyp(0)}, 0, api.ErrProof)
		wrong(t, f, append(hyps, 2), []api.Line{hyp(0), hyp(2)}, 0, api.ErrProof)
	}
	// What lies behind a list's end is nobody's.
	wrong(t, f, []int{1, 0}[:1], []api.Line{hyp(0)}, 0, api.ErrProof)
	rightTells(t, f, []int{1, 0}[:1], []api.Line{hyp(1), hyp(0)}[:1], 1)
}

// TestRightMP: P16.2, A and B are earlier lines, A's formula is the implication from B's to the line's own.
func TestRightMP(t *testing.T) {
	f := rowsOf(t, "p", "q", "p -> q", "p & q", "q -> q", "p | q", "p -> p")
	hyps := []int{0, 1, 2, 3, 4, 5, 6}
	rightTells(t, f, hyps, []api.Line{hyp(2), hyp(0), mp(1, 0, 1)}, 1)
	rightTells(t, f, hyps, []api.Line{hyp(0), hyp(2), mp(1, 1, 0)}, 1)
	rightTells(t, f, hyps, []api.Line{hyp(0), hyp(2), mp(1, 1, 0), hyp(4), mp(1, 3, 2), mp(1, 3, 4)}, 1)
	rightTells(t, f, hyps, []api.Line{hyp(0), hyp(0), hyp(2), hyp(2), mp(1, 2, 1), mp(1, 3, 0)}, 1)
	for _, last := range []api.Line{
		mp(1, 0, 1), mp(1, 1, 1), mp(1, 0, 0), // the other way round, or one twice
		mp(0, 1, 0), mp(2, 1, 0), mp(3, 1, 0), // another formula
		mp(1, 2, 0), mp(1, 1, 2), mp(1, 2, 2), mp(1, 3, 0), mp(1, 1, 3), // itself, or behind it
		mp(1, -1, 0), mp(1, 1, -1), mp(1, math.MinInt, 0), mp(1, 1, math.MinInt), mp(1, math.MaxInt, 0), mp(1, 1, math.MaxInt),
		mp(1, 1<<32+1, 0), mp(1, 1, 1<<32),
	} {
		lines := []api.Line{hyp(0), hyp(2), last}
		wrong(t, f, hyps, lines, 0, api.ErrProof)
		wrong(t, f, hyps, append(lines, hyp(1), hyp(2)), 0, api.ErrProof)
	}
	wrong(t, f, hyps, []api.Line{hyp(0), hyp(3), mp(1, 1, 0)}, 0, api.ErrProof) // p & q
	wrong(t, f, hyps, []api.Line{hyp(0), hyp(5), mp(1, 1, 0)}, 0, api.ErrProof) // p | q
	wrong(t, f, hyps, []api.Line{hyp(0), hyp(4), mp(1, 1, 0)}, 0, api.ErrProof) // q -> q
	wrong(t, f, hyps, []api.Line{hyp(0), hyp(6), mp(1, 1, 0)}, 0, api.ErrProof) // p -> p
	wrong(t, f, hyps, []api.Line{hyp(0), hyp(0), mp(0, 1, 0)}, 0, api.ErrProof)
	wrong(t, f, hyps, []api.Line{mp(1, 0, 0)}, 0, api.ErrProof)
	wrong(t, f, hyps, []api.Line{mp(1, 1, 0), hyp(2), hyp(0)}, 0, api.ErrProof)
	wrong(t, f, hyps, []api.Line{mp(1, 1, 2), hyp(2), hyp(0)}, 0, api.ErrProof)
}

// TestNoLines: P16.2, no line is no proof.
func TestNoLines(t *testing.T) {
	f := rowsOf(t, "p")
	for _, hyps := range [][]int{nil, {}, {0}, {0, 0}} {
		wrong(t, f, hyps, nil, 0, api.ErrProof)
		wrong(t, f, hyps, []api.Line{}, 0, api.ErrProof)
		wrong(t, f, hyps, []api.Line{hyp(0)}[:0], 0, api.ErrProof)
	}
	wrong(t, f, []int{0}, []api.Line{{}}, 0, api.ErrProof)
}

// TestNoForms: ErrForm of a hypothesis or a line's formula, wherever it stands, ahead of ErrProof; of Deduce's h, too.
func TestNoForms(t *testing.T) {
	f := rowsOf(t, "p", "q", "p -> q")
	good := []api.Line{hyp(0), hyp(2), mp(1, 1, 0)}
	bad := []api.Line{hyp(0), mp(1, 7, 7)}
	for _, id := range append(noForms(), 3) {
		for at := range 3 {
			hyps := []int{0, 1, 2}
			hyps[at] = id
			for _, lines := range [][]api.Line{nil, good, bad} {
				wrong(t, f, hyps, lines, 0, api.ErrForm)
				wrong(t, f, hyps, lines, id, api.ErrForm)
			}
			lines := slices.Clone(good)
			lines[at].Form = id
			wrong(t, f, []int{0, 1, 2}, lines, 0, api.ErrForm)
			wrong(t, f, nil, lines, 0, api.ErrForm) // also where a line ahead is not right
			wrong(t, f, hyps, lines, 0, api.ErrForm)
		}
		for _, k := range append(axiomKinds(), noAxioms()...) {
			wrong(t, f, nil, []api.Line{line(k, id)}, 0, api.ErrForm)
		}
		undeduced(t, f, []int{0, 2}, good, id, api.ErrForm)
		undeduced(t, f, nil, good, id, api.ErrForm)
		undeduced(t, f, nil, nil, id, api.ErrForm)
		undeduced(t, f, nil, bad, id, api.ErrForm)
	}
	wrong(t, formula.New(), []int{0}, nil, 0, api.ErrForm)
	wrong(t, formula.New(), nil, []api.Line{hyp(0)}, 0, api.ErrForm)
	undeduced(t, formula.New(), nil, nil, 0, api.ErrForm)
	if e := hilbert.Check(formula.New(), nil, nil); e != api.ErrProof {
		t.Error(e)
	}
}

// TestNoTable: R1, a table that no call made is ErrNil, ahead of all else that is wrong, and stays none.
func TestNoTable(t *testing.T) {
	for _, f := range noMade() {
		for _, hyps := range [][]int{nil, {0}, {-1}, {5000}} {
			for _, lines := range [][]api.Line{nil, {}, {{}}, {hyp(0)}, {hyp(-1)}, {mp(math.MaxInt, -1, 9)}} {
				for _, h := range append(noForms(), 0) {
					wrong(t, f, hyps, lines, h, api.ErrNil)
				}
			}
		}
		for _, x := range []api.Term{{}, v("x"), lam("x", v("x")), {Kind: 99}} {
			for _, id := range append(noForms(), 0) {
				uncompiled(t, f, nil, x, id, api.ErrNil)
				uncompiled(t, f, []api.Hyp{named("x", 0), named("", -1)}, x, id, api.ErrNil)
			}
		}
		if f.Len() != 0 {
			t.Error("a table that no call made has rows")
		}
	}
}

// TestCutTable: formulas that were rows and are no more are none.
func TestCutTable(t *testing.T) {
	f := rowsOf(t, "p", "q", "p & q", "p & q -> q")
	lines := []api.Line{line(api.LineSnd, 3)}
	rightTells(t, f, nil, lines, 3)
	f.Cut(3)
	wrong(t, f, nil, lines, 0, api.ErrForm)
	uncompiled(t, f, nil, lam("x", of(api.TSnd, v("x"))), 3, api.ErrForm)
	if id, _ := f.Imp(2, 0); id != 3 {
		t.Fatal(id)
	}
	wrong(t, f, nil, lines, 0, api.ErrProof)
	rightTells(t, f, nil, []api.Line{line(api.LineFst, 3)}, 3)
}

// changed are lines of which something is another one.
func changed(chance *rand.Rand, lines []api.Line, rows int) []api.Line {
	lines = slices.Clone(lines)
	at := chance.IntN(len(lines))
	l := &lines[at]
	switch chance.IntN(8) {
	case 0:
		l.Kind = api.LineKind(chance.IntN(14) - 1)
	case 1:
		l.Form = chance.IntN(rows)
	case 2:
		l.A = chance.IntN(len(lines)+3) - 1
	case 3:
		l.B = chance.IntN(len(lines)+3) - 1
	case 4:
		l.A, l.B = l.B, l.A
	case 5:
		lines = slices.Delete(lines, at, at+1)
	case 6:
		other := chance.IntN(len(lines))
		lines[at], lines[other] = lines[other], lines[at]
	case 7:
		l.Form = chance.IntN(rows+40) - 20
	}
	return lines
}

// asPlain holds Check and Tells against the plain reading, and answers the error.
func asPlain(t *testing.T, f *formula.Table, hyps []int, lines []api.Line) api.Errno {
	t.Helper()
	want := plainCheck(f.Rows(), hyps, lines)
	if e := hilbert.Check(f, hyps, lines); e != want {
		t.Fatalf("Check(%v, %s) of %v: error %d, not %d", hyps, showLines(lines), f.Rows(), e, want)
	}
	form := 0
	if want == api.OK {
		form = lines[len(lines)-1].Form
	}
	if id, e := hilbert.Tells(f, hyps, lines); id != form || e != want {
		t.Fatalf("Tells(%v, %s): %d, error %d, not %d, %d", hyps, showLines(lines), id, e, form, want)
	}
	return want
}

// TestCheckChance: P16.2, right lines by chance, and such lines with something changed.
func TestCheckChance(t *testing.T) {
	chance := newChance(2)
	many := map[api.Errno]int{}
	kinds := map[api.LineKind]int{}
	for range 3000 {
		f := made(t, someRows(chance, 3+chance.IntN(8), 3)...)
		hyps, lines := someLines(t, chance, f, 1+chance.IntN(14))
		if e := asPlain(t, f, hyps, lines); e != api.OK {
			t.Fatalf("error %d of %v, %s", e, hyps, showLines(lines))
		}
		rightTells(t, f, hyps, lines, lines[len(lines)-1].Form)
		for _, l := range lines {
			kinds[l.Kind]++
		}
		for range 6 {
			many[asPlain(t, f, hyps, changed(chance, lines, f.Len()))]++
		}
		if len(hyps) > 0 {
			many[asPlain(t, f, hyps[1:], lines)]++
		}
	}
	for _, e := range []api.Errno{api.OK, api.ErrProof, api.ErrForm} {
		if many[e] < 300 {
			t.Errorf("error %d: %d times", e, many[e])
		}
	}
	for k := api.LineK; k <= api.LineMP; k++ {
		if kinds[k] < 300 {
			t.Errorf("kind %d: %d lines", k, kinds[k])
		}
	}
}

// TestManyLines: P16.2, Check and Tells take more than MaxLines lines, and more hypotheses than a table has rows.
func TestManyLines(t *testing.T) {
	f := rowsOf(t, "p", "q", "p -> p")
	var lines []api.Line
	for range 30000 {
		lines = append(lines, hyp(0))
	}
	lines = append(lines, hyp(2), mp(0, 30000, 17))
	hyps := make([]int, 50000)
	hyps = append(hyps, 2)
	rightTells(t, f, hyps, lines, 0)
	wrong(t, f, hyps, append(lines, hyp(1)), 0, api.ErrProof)
	wrong(t, f, hyps, append(lines, mp(0, 30000, 30002)), 0, api.ErrProof)
	rightTells(t, f, hyps, append(lines, mp(0, 30000, 30001)), 0)
}
