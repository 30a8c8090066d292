package hilbert_test

import (
	"testing"

	"dictum/api"
	"dictum/formula"
)

// limitRows are a table, and names for all its rows: a for the first one, b for the second one, and so on.
func limitRows(t *testing.T) (*formula.Table, []api.Hyp) {
	t.Helper()
	f := rowsOf(t, "p", "q", "r", "p -> p", "p -> (p -> p)", "p & p", "p | p", "q -> p", "q -> (q -> p)", "q | r", "p -> q | r", "false", "p -> false", "p & (p | p)")
	var hyps []api.Hyp
	for id := range f.Len() {
		hyps = append(hyps, named(string(rune('a'+id)), id))
	}
	return f, hyps
}

func app(a, b api.Term) api.Term { return of(api.TApp, a, b) }

// long is a term of p of just so many lines, whose formulas are p, p -> p and p -> (p -> p). There are terms of odd numbers of lines alone: a name has one, and all other kinds of terms make odd numbers of odd ones.
func long(lines int) api.Term {
	switch {
	case lines == 1:
		return v("a")
	case lines < 5:
		return app(v("d"), long(lines-2))
	}
	left := (lines - 3) / 2
	left -= 1 - left%2
	return app(app(v("e"), long(left)), long(lines-3-left))
}

// limitCase is a term of a formula, and of how many lines; 0, if they would be more than MaxLines.
type limitCase struct {
	what string
	x    api.Term
	id   int
	many int
}

// limitCases are terms of each kind.
func limitCases() []limitCase {
	const p, r, pp, or, qp, qqp, pOr = 0, 2, 5, 6, 7, 8, 13
	fun := func(n int) api.Term { return lam("u", long(n)) }                                                // 3 n lines, of q -> p
	pair := func(n, m int) api.Term { return of(api.TPair, long(n), long(m)) }                              // n + m + 3 lines
	parts := func(n, l, m int) api.Term { return choose(app(v("k"), long(n)), "u", long(l), "u", long(m)) } // n + 3 l + 3 m + 6 lines
	return []limitCase{
		{"one", long(1), p, 1},
		{"most", long(4095), p, 4095},
		{"more", long(4097), p, 0},
		{"far more", long(16001), p, 0},
		{"TThe", the(long(4095), p), p, 4095},
		{"TThe, more", the(long(4097), p), p, 0},
		{"TLam", fun(1365), qp, 4095},
		{"TLam, more", fun(1367), qp, 0},
		{"TLam, more ahead of Deduce", fun(4097), qp, 0},
		{"TLam twice", lam("u", fun(455)), qqp, 4095},
		{"TLam twice, more", lam("u", fun(457)), qqp, 0},
		{"TLam twice, more within", lam("u", fun(1367)), qqp, 0},
		{"TApp", app(v("d"), long(4093)), p, 4095},
		{"TApp, more", app(v("d"), long(4095)), p, 0},
		{"TApp, of a function", app(the(fun(1363), qp), v("b")), p, 4091},
		{"TApp, of a function, more", app(the(fun(1365), qp), v("b")), p, 0},
		{"TPair", pair(2001, 2091), pp, 4095},
		{"TPair, more", pair(2001, 2093), pp, 0},
		{"TPair, more in both", pair(3001, 3001), pp, 0},
		{"TFst", of(api.TFst, the(pair(1, 4089), pp)), p, 4095},
		{"TFst, more", of(api.TFst, the(pair(1, 4091), pp)), p, 0},
		{"TSnd", of(api.TSnd, the(pair(4089, 1), pp)), p, 4095},
		{"TSnd, more", of(api.TSnd, the(pair(4091, 1), pp)), p, 0},
		{"TInl", of(api.TInl, long(4093)), or, 4095},
		{"TInl, more", of(api.TInl, long(4095)), or, 0},
		{"TInr", of(api.TInr, long(4093)), or, 4095},
		{"TInr, more", of(api.TInr, long(4095)), or, 0},
		{"TAbort", of(api.TAbort, app(v("m"), long(4091))), r, 4095},
		{"TAbort, more", of(api.TAbort, app(v("m"), long(4093))), r, 0},
		{"TCase", parts(3, 681, 681), p, 4095},
		{"TCase, more in the first part", parts(5, 681, 681), p, 0},
		{"TCase, more in the second part", parts(1, 683, 681), p, 0},
		{"TCase, more in the third part", parts(1, 681, 683), p, 0},
		{"TCase, a long first part", parts(4083, 1, 1), p, 4095},
		{"TCase, a longer first part", parts(4085, 1, 1), p, 0},
		{"TLet", let("u", long(4091), v("c")), r, 4095},
		{"TLet, more", let("u", long(4093), v("c")), r, 0},
		{"TLet, in its second part", let("u", v("b"), long(1363)), p, 4091},
		{"TLet, more in its second part", let("u", v("b"), long(1365)), p, 0},
		{"TPair of another", of(api.TPair, long(2001), of(api.TInl, long(2089))), pOr, 4095},
	}
}

// TestCompileLimit: P16.4, MaxLines lines at most, of x and of each part of it, ahead of Deduce and behind it.
func TestCompileLimit(t *testing.T) {
	for _, c := range limitCases() {
		f, hyps := limitRows(t)
		lines, e := compiles(t, f, hyps, c.x, c.id)
		want := api.OK
		if c.many == 0 {
			want = api.ErrBig
		}
		if e != want || len(lines) != c.many {
			t.Errorf("%s: %d lines, error %d, not %d, %d", c.what, len(lines), e, c.many, want)
		}
		if e == api.OK {
			rightTells(t, f, forms(hyps), lines, c.id)
		}
	}
}

// TestCompileBigOrForms: P16.4, ErrBig or ErrForms, whichever is met first: lists are made in the order in which they are said, and put behind each other as soon as they are made.
func TestCompileBigOrForms(t *testing.T) {
	const p, pp, or, qp, pOr = 0, 5, 6, 7, 13
	inl := func(n int) api.Term { return of(api.TInl, long(n)) } // needs p -> p | p
	fun := func(n int) api.Term { return lam("u", long(n)) }     // needs nine rows
	for _, c := range []struct {
		what string
		x    api.Term
		id   int
		need int // rows, with fewer than which it is ErrForms
		then api.Errno
	}{
		{"both parts are too many, ahead of the axiom's formula", of(api.TPair, long(3001), long(3001)), pp, 0, api.ErrBig},
		{"4096 lines of both parts, and the axiom's formula ahead of its line", of(api.TPair, long(2047), long(2049)), pp, 2, api.ErrBig},
		{"the second part is made ahead of being too much", of(api.TPair, long(3001), inl(3001)), pOr, 1, api.ErrBig},
		{"the first part is too many, ahead of the second one", of(api.TPair, long(4097), inl(1)), pOr, 0, api.ErrBig},
		{"4095 lines, and the axiom's formula", inl(4095), or, 1, api.ErrBig},
		{"just so", inl(4093), or, 1, api.OK},
		{"too many ahead of Deduce", fun(4097), qp, 0, api.ErrBig},
		{"Deduce, which makes too many", fun(1367), qp, 9, api.ErrBig},
		{"the second part's Deduce is too many, ahead of the third part", choose(app(v("k"), long(2001)), "u", long(801), "u", app(the(lam("u", v("u")), 3), v("a"))), p, 9, api.ErrBig},
		{"the third part's rows, ahead of too many", choose(app(v("k"), long(201)), "u", long(801), "u", app(the(lam("u", v("u")), 3), long(801))), p, 32, api.ErrBig},
	} {
		for room := range c.need + 12 {
			f, hyps := limitRows(t)
			f = filled(t, f.Rows(), api.MaxForms-room)
			want := c.then
			if room < c.need {
				want = api.ErrForms
			}
			if _, e := compiles(t, f, hyps, c.x, c.id); e != want {
				t.Errorf("%s: room for %d rows: error %d, not %d", c.what, room, e, want)
			}
		}
	}
}
