package hilbert_test

import (
	"slices"
	"testing"

	"dictum/api"
	"dictum/formula"
	"dictum/hilbert"
)

// deduces holds Deduce against the plain reading: lines, rows and error, which is answered.
func deduces(t *testing.T, f *formula.Table, hyps []int, lines []api.Line, h int) ([]api.Line, api.Errno) {
	t.Helper()
	was := f.Rows()
	want, rows, wantE := plainDeduce(t, was, hyps, lines, h)
	var got []api.Line
	var e api.Errno
	proofKept(t, hyps, lines, func() { got, e = hilbert.Deduce(f, hyps, lines, h) })
	if e != wantE || !slices.Equal(got, want) {
		t.Fatalf("Deduce(%v, %s, %d) of %v: %s, error %d, not %s, error %d", hyps, showLines(lines), h, was, showLines(got), e, showLines(want), wantE)
	}
	if !slices.Equal(f.Rows(), rows) {
		t.Fatalf("Deduce(%v, %s, %d), error %d: rows %v, not %v", hyps, showLines(lines), h, e, f.Rows(), rows)
	}
	return got, e
}

// TestDeduceItself: P16.3, a line whose formula is h, of whatever kind, and the rows in their order.
func TestDeduceItself(t *testing.T) {
	want := []api.Node{
		atom("p"), join(api.KImp, 0, 0), // h -> h
		join(api.KImp, 1, 0), join(api.KImp, 0, 2), // h -> ((h -> h) -> h)
		join(api.KImp, 0, 1), join(api.KImp, 4, 1), // (h -> (h -> h)) -> (h -> h)
		join(api.KImp, 3, 5),
	}
	lines := []api.Line{line(api.LineS, 6), line(api.LineK, 3), mp(5, 0, 1), line(api.LineK, 4), mp(1, 2, 3)}
	for _, hyps := range [][]int{{0}, {0, 0}} {
		f := made(t, atom("p"))
		got, e := hilbert.Deduce(f, hyps, []api.Line{hyp(0)}, 0)
		if e != api.OK || !slices.Equal(got, lines) || !slices.Equal(f.Rows(), want) {
			t.Errorf("%s, error %d, rows %v", showLines(got), e, f.Rows())
		}
		rightTells(t, f, nil, got, 1)
	}
	f := rowsOf(t, "false", "p", "false -> p")
	got, e := hilbert.Deduce(f, nil, []api.Line{line(api.LineBot, 2)}, 2)
	if e != api.OK || len(got) != 5 || got[0].Kind != api.LineS || f.Len() != 9 {
		t.Errorf("%s, error %d, rows %v", showLines(got), e, f.Rows())
	}
	f = rowsOf(t, "p", "q", "p -> q")
	got, e = hilbert.Deduce(f, []int{0, 2}, []api.Line{hyp(2), hyp(0), mp(1, 0, 1)}, 1)
	if e != api.OK || len(got) != 11 || got[6].Kind != api.LineS {
		t.Errorf("%s, error %d, rows %v", showLines(got), e, f.Rows())
	}
	rightTells(t, f, []int{0, 2}, got, got[10].Form)
}

// TestDeduceOther: P16.3, an axiom and a hypothesis that are not h stay, and lead to h -> X.
func TestDeduceOther(t *testing.T) {
	f, ids := ruleRows(t)
	was := f.Len()
	for i, id := range ids {
		g := made(t, f.Rows()...)
		got, e := hilbert.Deduce(g, nil, []api.Line{line(axiomKinds()[i], id)}, 3)
		image, there := g.Find(join(api.KImp, 3, id))
		k, also := g.Find(join(api.KImp, id, image))
		want := []api.Line{line(axiomKinds()[i], id), line(api.LineK, k), mp(image, 1, 0)}
		if e != api.OK || !there || !also || image != was || k != was+1 || g.Len() != was+2 || !slices.Equal(got, want) {
			t.Errorf("axiom %d: %s, error %d, %d rows", i+1, showLines(got), e, g.Len())
		}
		rightTells(t, g, nil, got, image)
	}
	got, e := hilbert.Deduce(f, []int{0}, []api.Line{hyp(0)}, 1)
	image, _ := f.Find(join(api.KImp, 1, 0))
	k, _ := f.Find(join(api.KImp, 0, image))
	if e != api.OK || !slices.Equal(got, []api.Line{hyp(0), line(api.LineK, k), mp(image, 1, 0)}) {
		t.Errorf("%s, error %d", showLines(got), e)
	}
}

// TestDeduceFollowing: P16.3, what follows of two lines, with h among the hypotheses or not.
func TestDeduceFollowing(t *testing.T) {
	for _, hyps := range [][]int{{0, 2}, {0, 1, 2, 3}} {
		f := rowsOf(t, "p", "q", "p -> q", "r")
		got, e := hilbert.Deduce(f, hyps, []api.Line{hyp(2), hyp(0), mp(1, 0, 1)}, 3)
		rows := []api.Node{
			join(api.KImp, 3, 2), join(api.KImp, 2, 4), // 4: r -> (p -> q); 5: (p -> q) -> 4
			join(api.KImp, 3, 0), join(api.KImp, 0, 6), // 6: r -> p; 7: p -> 6
			join(api.KImp, 3, 1), join(api.KImp, 6, 8), join(api.KImp, 4, 9), // 8: r -> q; 9: 6 -> 8; 10: 4 -> 9
		}
		want := []api.Line{
			hyp(2), line(api.LineK, 5), mp(4, 1, 0),
			hyp(0), line(api.LineK, 7), mp(6, 4, 3),
			line(api.LineS, 10), mp(9, 6, 2), mp(8, 7, 5),
		}
		if e != api.OK || !slices.Equal(got, want) || !slices.Equal(f.Rows()[4:], rows) {
			t.Errorf("%s, error %d, rows %v", showLines(got), e, f.Rows())
		}
		rightTells(t, f, []int{0, 2}, got, 8)
	}
}

// TestDeduceChance: P16.3, of right lines by chance, by each row as h; then again of what was answered.
func TestDeduceChance(t *testing.T) {
	chance := newChance(3)
	again := 0
	for range 1500 {
		f := made(t, someRows(chance, 3+chance.IntN(8), 3)...)
		hyps, lines := someLines(t, chance, f, 1+chance.IntN(12))
		for range 4 {
			h := chance.IntN(f.Len())
			if l := lines[chance.IntN(len(lines))]; chance.IntN(2) == 0 {
				h = l.Form
			}
			g := f.Copy()
			l, e := deduces(t, g, hyps, lines, h)
			if e == api.OK && len(l) < 200 {
				deduces(t, g, hyps, l, chance.IntN(g.Len()))
				again++
			}
			deduces(t, f.Copy(), hyps, changed(chance, lines, f.Len()), h)
		}
	}
	if again < 4000 {
		t.Errorf("%d times", again)
	}
}

// TestDeduceRoom: P16.3, with room for each number of rows: what is made fits just so, or is ErrForms, and the table is as it was.
func TestDeduceRoom(t *testing.T) {
	chance := newChance(4)
	many := map[api.Errno]int{}
	for range 150 {
		rows := someRows(chance, 3+chance.IntN(6), 3)
		f := made(t, rows...)
		hyps, lines := someLines(t, chance, f, 1+chance.IntN(8))
		h := chance.IntN(f.Len())
		g := f.Copy()
		hilbert.Deduce(g, hyps, lines, h)
		need := g.Len() - f.Len()
		for room := range need + 3 {
			_, e := deduces(t, filled(t, f.Rows(), api.MaxForms-room), hyps, lines, h)
			if e == api.OK != (room >= need) {
				t.Fatalf("%d rows, room for %d: error %d", need, room, e)
			}
			many[e]++
		}
	}
	if many[api.OK] < 400 || many[api.ErrForms] < 400 || len(many) != 2 {
		t.Error(many)
	}
}

// repeated are lines of p (0) and q (1), so many each, in turns.
func repeated(ps, qs int) []api.Line {
	var lines []api.Line
	for ps > 0 || qs > 0 {
		if ps > 0 {
			lines = append(lines, hyp(0))
			ps--
		}
		if qs > 0 {
			lines = append(lines, hyp(1))
			qs--
		}
	}
	return lines
}

// TestDeduceLimit: P16.3, MaxLines lines and one more: lines of h become five, others three.
func TestDeduceLimit(t *testing.T) {
	for _, c := range []struct{ itself, others, become int }{
		{819, 0, 4095}, {820, 0, 4100}, {0, 1365, 4095}, {0, 1366, 4098}, {2, 1362, 4096}, {1, 1364, 4097}, {1, 1363, 4094},
		{818, 2, 4096}, {818, 3, 4099}, {5, 1357, 4096}, {4, 1359, 4097}, {3000, 3000, 24000},
	} {
		f := rowsOf(t, "p", "q")
		lines := repeated(c.itself, c.others)
		got, e := deduces(t, f, []int{0, 1}, lines, 0)
		if c.become <= 4096 {
			if e != api.OK || len(got) != c.become {
				t.Errorf("%v: %d lines, error %d", c, len(got), e)
			}
			continue
		}
		if e != api.ErrBig || f.Len() != 2 {
			t.Errorf("%v: error %d, %d rows", c, e, f.Len())
		}
		undeduced(t, f, []int{0, 1}, lines, 0, api.ErrBig)
		undeduced(t, f, nil, lines, 0, api.ErrProof)
		undeduced(t, f, []int{0, 1}, lines, 2, api.ErrForm)
	}
}

// TestDeduceFollowingLimit: P16.3, the lines of what follows are counted, too.
func TestDeduceFollowingLimit(t *testing.T) {
	for many := 1360; many < 1370; many++ {
		f := rowsOf(t, "p", "q", "p -> p")
		lines := []api.Line{hyp(0), hyp(2)}
		for len(lines) < many {
			lines = append(lines, mp(0, 1, len(lines)*7/8))
			if last := &lines[len(lines)-1]; last.B == 1 {
				last.B = 0
			}
		}
		got, e := deduces(t, f, []int{0, 2}, lines, 1)
		if many*3 <= 4096 && (e != api.OK || len(got) != many*3) || many*3 > 4096 && e != api.ErrBig {
			t.Errorf("%d lines: %d, error %d", many, len(got), e)
		}
	}
}

// TestDeduceBigOrForms: P16.3, ErrBig or ErrForms, whichever is met first: a line's formula comes ahead of the line.
func TestDeduceBigOrForms(t *testing.T) {
	const p, q, r, pq, rr = 0, 1, 2, 3, 4
	hyps := []int{p, q, r, pq, rr}
	itself := rowsOf(t, "p", "q", "r", "p -> q", "r -> r")
	for _, c := range []struct {
		ahead int // lines of the answer ahead of the image of the last line
		last  api.Line
		none  api.Errno
		need  int // rows for the image
	}{
		{4092, hyp(r), api.ErrForms, 2},
		{4094, hyp(r), api.ErrForms, 2},
		{4095, hyp(r), api.ErrForms, 2},
		{4096, hyp(r), api.ErrBig, 0}, // the line itself is too many
		{4094, line(api.LineHyp, rr), api.ErrForms, 2},
		{4096, line(api.LineHyp, rr), api.ErrBig, 0},
		{4092, mp(q, 0, 1), api.ErrForms, 2},
		{4095, mp(q, 0, 1), api.ErrForms, 2},
		{4096, mp(q, 0, 1), api.ErrForms, 2}, // the axiom's formula comes ahead of its line
	} {
		lines := []api.Line{hyp(pq), hyp(p)} // 3 and 5 lines of h = p
		fives := (c.ahead - 8) * 2 % 3       // 5 n = ahead - 8 modulo 3
		for range fives {
			lines = append(lines, hyp(p))
		}
		for range (c.ahead - 8 - 5*fives) / 3 {
			lines = append(lines, hyp(pq))
		}
		f := itself.Copy()
		if l, e := hilbert.Deduce(f, hyps, lines, p); len(l) != c.ahead || e != api.OK {
			t.Fatalf("%d lines, error %d, not %d", len(l), e, c.ahead)
		}
		rows := f.Len() - itself.Len()
		lines = append(lines, c.last)
		for room := range c.need + 3 {
			want := api.ErrBig
			if room < c.need {
				want = c.none
			}
			if c.ahead == 4092 && room >= c.need {
				want = api.OK
			}
			f := filled(t, itself.Rows(), api.MaxForms-rows-room)
			if _, e := deduces(t, f, hyps, lines, p); e != want {
				t.Errorf("%v, room for %d rows: error %d, not %d", c, room, e, want)
			}
		}
		for room := range rows { // full ahead of all that
			undeduced(t, filled(t, itself.Rows(), api.MaxForms-room), hyps, lines, p, api.ErrForms)
		}
	}
}

// TestDeduceItselfOrForms: P16.3, the same where the last line is h itself.
func TestDeduceItselfOrForms(t *testing.T) {
	for others := 1360; others < 1366; others++ {
		for room := range 12 {
			f := filled(t, rowsOf(t, "p", "q").Rows(), api.MaxForms-2-room)
			want := api.OK
			switch {
			case room < 6: // h -> h, (h -> h) -> h, h -> that, h -> (h -> h), that -> (h -> h), the whole
				want = api.ErrForms
			case others*3+5 > 4096:
				want = api.ErrBig
			}
			lines := append(repeated(0, others), hyp(0))
			if _, e := deduces(t, f, []int{0, 1}, lines, 0); e != want {
				t.Errorf("%d lines, room for %d rows: error %d, not %d", others, room, e, want)
			}
		}
	}
}

// TestDeduceOwn: R3, what was answered is the caller's own, and no piece of what was handed in.
func TestDeduceOwn(t *testing.T) {
	f := rowsOf(t, "p", "q")
	lines := make([]api.Line, 2, 50)
	copy(lines, []api.Line{hyp(0), hyp(1)})
	one, _ := hilbert.Deduce(f, []int{0, 1}, lines, 0)
	two, _ := hilbert.Deduce(f, []int{0, 1}, lines, 0)
	was := slices.Clone(two)
	for i := range one[:cap(one)] {
		one[:cap(one)][i] = hyp(-1)
	}
	if !slices.Equal(two, was) || !slices.Equal(lines, []api.Line{hyp(0), hyp(1)}) || slices.Contains(lines[:50], hyp(-1)) {
		t.Error(showLines(two), showLines(lines))
	}
}
