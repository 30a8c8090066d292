package hilbert_test

import (
	"slices"
	"strconv"
	"testing"

	"dictum/api"
	"dictum/formula"
	"dictum/hilbert"
	"dictum/term"
	"dictum/types"
)

// gives holds Term against the plain reading.
func gives(t *testing.T, f *formula.Table, hyps []int, lines []api.Line) api.Term {
	t.Helper()
	want := plainTerm(t, lines)
	var x api.Term
	untouched(t, f, func() {
		proofKept(t, hyps, lines, func() {
			var e api.Errno
			if x, e = hilbert.Term(f, hyps, lines); e != api.OK || !alike(x, want) {
				t.Fatalf("Term(%v, %s): %s, error %d, not %s", hyps, showLines(lines), show(x), e, show(want))
			}
		})
	})
	return x
}

// TestTermEach: P16.5, the let of each kind of line.
func TestTermEach(t *testing.T) {
	f, ids := ruleRows(t)
	for i, text := range []string{
		"fun a => fun b => a", "fun a => fun b => fun c => a c (b c)", "fun a => fst a", "fun a => snd a", "fun a => fun b => (a, b)",
		"fun a => inl a", "fun a => inr a", "fun a => fun b => fun c => case c of d => a d | e => b e", "fun a => abort a",
	} {
		lines := []api.Line{line(axiomKinds()[i], ids[i])}
		x := gives(t, f, nil, lines)
		want := let("l0", the(readTerm(t, f, text), ids[i]), v("l0"))
		if !alike(x, want) {
			t.Errorf("%s: %s", text, show(x))
		}
		if e := types.Check(f, nil, x, ids[i]); e != api.OK {
			t.Errorf("%s: error %d", text, e)
		}
	}
	f = rowsOf(t, "p", "q", "p -> q")
	x := gives(t, f, []int{2, 0}, []api.Line{hyp(0), hyp(2), mp(1, 1, 0), hyp(0)})
	if text, _ := term.Print(f, x); text != "let l0 = h0 in let l1 = h2 in let l2 = l1 l0 in let l3 = h0 in l3" {
		t.Error(text)
	}
	if e := types.Check(f, []api.Hyp{named("h0", 0), named("h2", 2)}, x, 0); e != api.OK {
		t.Error(e)
	}
}

// TestTermNumbers: P16.5, names are the numbers of the table's rows and of lines, also the last ones.
func TestTermNumbers(t *testing.T) {
	f := filled(t, rowsOf(t, "p", "q").Rows(), api.MaxForms-2)
	id, _ := f.Imp(0, 1)    // 1022
	last, _ := f.Imp(id, 1) // 1023
	var lines []api.Line
	for range 100 {
		lines = append(lines, hyp(0))
	}
	lines = append(lines, hyp(id), hyp(last), mp(1, 101, 100))
	x := gives(t, f, []int{0, id, last}, lines)
	for range 100 {
		x = x.Sub[1]
	}
	if text, _ := term.Print(f, x); text != "let l100 = h1022 in let l101 = h1023 in let l102 = l101 l100 in l102" {
		t.Error(text)
	}
}

// TestTermChance: P16.5, of right lines by chance.
func TestTermChance(t *testing.T) {
	chance := newChance(7)
	for range 3000 {
		f := made(t, someRows(chance, 3+chance.IntN(8), 3)...)
		hyps, lines := someLines(t, chance, f, 1+chance.IntN(14))
		gives(t, f, hyps, lines)
		l, e := hilbert.Deduce(f, hyps, lines, chance.IntN(f.Len()))
		if e == api.OK {
			gives(t, f, hyps, l)
		}
		if x, e := hilbert.Term(f, nil, changed(chance, lines, f.Len())); e != api.OK && !alike(x, api.Term{}) {
			t.Fatalf("%s beside error %d", show(x), e)
		}
	}
}

// TestTermLimit: P16.5, MaxDeep levels at most: a level for each line, and those of the deepest let, or of the name behind them.
func TestTermLimit(t *testing.T) {
	f, ids := ruleRows(t)
	hyps := []int{0, 1, 3}
	many := func(n int, last ...api.Line) []api.Line {
		lines := []api.Line{hyp(0), hyp(3)}
		for len(lines) < n-len(last) {
			lines = append(lines, hyp(1))
		}
		return append(lines, last...)
	}
	s, k, fst, each := line(api.LineS, ids[1]), line(api.LineK, ids[0]), line(api.LineFst, ids[2]), line(api.LineCase, ids[7])
	for _, c := range []struct {
		lines  []api.Line
		levels int
	}{
		{many(1000), 1001},
		{many(1023), 1024}, {many(1024), 1025}, {many(1025), 1026}, {many(5000), 5001},
		{many(1022, mp(1, 1, 0)), 1024}, {many(1023, mp(1, 1, 0)), 1025},
		{many(1020, k), 1024}, {many(1021, k), 1025},
		{many(1020, fst), 1024}, {many(1021, fst), 1025},
		{many(1017, s), 1024}, {many(1018, s), 1025},
		{many(1017, each), 1024}, {many(1018, each), 1025},
		{many(1018, each, hyp(0)), 1024}, {many(1019, each, hyp(0)), 1025},
		{many(1023, hyp(0), k, hyp(0), hyp(0), hyp(0)), 1024},
		{many(1022, k, hyp(0), hyp(0)), 1024}, {many(1023, k, hyp(0), hyp(0)), 1025},
	} {
		if c.levels > 1024 {
			untouched(t, f, func() {
				if x, e := hilbert.Term(f, hyps, c.lines); e != api.ErrBig || !alike(x, api.Term{}) {
					t.Errorf("%d lines, %d levels: %s, error %d", len(c.lines), c.levels, show(x), e)
				}
			})
			wrong(t, f, nil, c.lines, 0, api.ErrProof)
			continue
		}
		x := gives(t, f, hyps, c.lines)
		if term.Deep(x) != c.levels || term.Check(x) != api.OK {
			t.Errorf("%d lines: %d levels, not %d", len(c.lines), term.Deep(x), c.levels)
		}
		checked(t, f, hyps, c.lines, x)
	}
}

// checked asks that layer 13 takes the term of lines at what they tell, where h and its number stands for each hypothesis.
func checked(t *testing.T, f *formula.Table, hyps []int, lines []api.Line, x api.Term) {
	t.Helper()
	var all []api.Hyp
	for _, id := range hyps {
		all = append(all, named("h"+strconv.Itoa(id), id))
	}
	form := lines[len(lines)-1].Form
	if way, e := types.Where(f, all, x, form); e != api.OK {
		t.Fatalf("%s of %s at %d: error %d at %v", show(x), showLines(lines), form, e, way)
	}
}

// TestTermMost: P16.5, the largest term of all that are not too deep: far from MaxTerm.
func TestTermMost(t *testing.T) {
	f, ids := ruleRows(t)
	lines := slices.Repeat([]api.Line{line(api.LineCase, ids[7])}, 1017)
	x, e := hilbert.Term(f, nil, lines)
	if e != api.OK || term.Size(x) != 1017*13+1 || term.Deep(x) != 1024 {
		t.Error(term.Size(x), term.Deep(x), e)
	}
	checked(t, f, nil, lines, x)
}

// own asks that no two lists of a term share memory, also behind their ends.
func own(t *testing.T, x api.Term, seen map[*api.Term]int) {
	t.Helper()
	all := x.Sub[:cap(x.Sub)]
	for i := range all {
		if seen[&all[i]]++; seen[&all[i]] > 1 {
			t.Fatalf("a list of %s is shared", show(x))
		}
	}
	for _, part := range x.Sub {
		own(t, part, seen)
	}
}

// TestTermOwn: R3, no list stands in two places of a term, or in two answers.
func TestTermOwn(t *testing.T) {
	f, ids := ruleRows(t)
	var lines []api.Line
	for range 2 {
		for i, id := range ids {
			lines = append(lines, line(axiomKinds()[i], id), hyp(0), hyp(3))
		}
	}
	lines = append(lines, mp(1, 2, 1), mp(1, 5, 4), mp(1, 2, 1))
	seen := map[*api.Term]int{}
	for range 3 {
		x := gives(t, f, []int{0, 3}, lines)
		own(t, x, seen)
	}
}
