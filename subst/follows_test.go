package subst_test

import (
	"math/rand/v2"
	"slices"
	"testing"

	"dictum/api"
	"dictum/formula"
	"dictum/subst"
)

// someBy puts formulas by chance for some of the names a to d.
func someBy(chance *rand.Rand, many int) []api.Hyp {
	var by []api.Hyp
	for _, i := range chance.Perm(4) {
		if chance.IntN(3) > 0 {
			by = append(by, api.Hyp{Name: string(rune('a' + i)), Form: chance.IntN(many)})
		}
	}
	return by
}

// holds holds an answer and the table against those of the plain table.
func holds(t *testing.T, what string, f *formula.Table, p *plain, id int, e api.Errno, want int, wantE api.Errno) {
	t.Helper()
	answers(t, what, id, e, want, wantE)
	same(t, f, p.rows)
	if t.Failed() {
		t.FailNow()
	}
}

// step does one thing by chance to both tables, and holds the answers against each other.
func step(t *testing.T, chance *rand.Rand, f *formula.Table, p *plain) {
	t.Helper()
	many := len(p.rows)
	id := chance.IntN(many)
	switch chance.IntN(4) {
	case 0:
		by := someBy(chance, many)
		was := slices.Clone(by)
		got, e := subst.Put(f, id, by)
		want, wantE := p.putFor(id, was)
		holds(t, "Put", f, p, got, e, want, wantE)
		if !slices.Equal(by, was) {
			t.Fatalf("%v has become %v", was, by)
		}
	case 1:
		below := p.below(id)
		old, by := chance.IntN(many), chance.IntN(many)
		if chance.IntN(3) > 0 {
			old = below[chance.IntN(len(below))]
		}
		got, e := subst.Replace(f, id, old, by)
		want, wantE := p.replace(id, old, by)
		holds(t, "Replace", f, p, got, e, want, wantE)
	case 2:
		got, e := subst.Simple(f, id)
		want, wantE := p.simple(id)
		holds(t, "Simple", f, p, got, e, want, wantE)
	default:
		name, fill := string(rune('a'+chance.IntN(4))), chance.IntN(many)
		got, e := subst.Frame(f, id, name, fill)
		want, wantE := p.putFor(id, []api.Hyp{{Name: name, Form: fill}})
		holds(t, "Frame", f, p, got, e, want, wantE)
	}
}

// TestAgainstPlain: P7.1 to P7.3, P7.5 and P7.6, rows of calls by chance, against the plain table, row for row.
func TestAgainstPlain(t *testing.T) {
	chance := newChance(1)
	for range 600 {
		rows := someRows(chance, 2+chance.IntN(30), 1+chance.IntN(12), 4)
		f, p := made(t, rows), &plain{slices.Clone(rows)}
		for range 12 {
			step(t, chance, f, p)
		}
	}
}

// TestAgainstPlainFull: the same where tables are nearly full, or become so.
func TestAgainstPlainFull(t *testing.T) {
	chance := newChance(2)
	for range 60 {
		rows := someRows(chance, 10+chance.IntN(30), 1+chance.IntN(12), 4)
		f := filled(t, rows, api.MaxForms-chance.IntN(30))
		p := &plain{f.Rows()}
		for range 30 {
			step(t, chance, f, p)
		}
	}
}

// small are all tables of a, false, b and up to so many rows behind them.
func small(rows []api.Node, more int, each func(rows []api.Node)) {
	each(rows)
	if more == 0 {
		return
	}
	for _, kind := range kinds() {
		for l := range rows {
			for r := range rows {
				if n := join(kind, l, r); !slices.Contains(rows, n) {
					small(append(slices.Clone(rows), n), more-1, each)
				}
			}
		}
	}
}

// TestSmallTables: P7.2 to P7.5, all small tables: each formula of them, by each.
func TestSmallTables(t *testing.T) {
	small([]api.Node{atom("a"), bot(), atom("b")}, 2, func(rows []api.Node) {
		last := len(rows) - 1
		for other := range rows {
			for third := range rows {
				f, p := made(t, rows), &plain{slices.Clone(rows)}
				by := []api.Hyp{{Name: "a", Form: other}, {Name: "b", Form: third}}
				got, e := subst.Put(f, last, by)
				want, wantE := p.putFor(last, by)
				holds(t, "Put", f, p, got, e, want, wantE)
				if a, b := tree(f.Rows(), got, self), told(rows, last, by); a != b {
					t.Fatalf("Put: %s, not %s", a, b)
				}
				got, e = subst.Replace(f, last, other, third)
				want, wantE = p.replace(last, other, third)
				holds(t, "Replace", f, p, got, e, want, wantE)
				got, e = subst.Simple(f, got)
				want, wantE = p.simple(want)
				holds(t, "Simple", f, p, got, e, want, wantE)
			}
		}
	})
}

// TestMatchSmall: P7.4, all small tables, each pattern against each formula, with all formulas tried for its atoms.
func TestMatchSmall(t *testing.T) {
	small([]api.Node{atom("b"), bot(), atom("a")}, 2, func(rows []api.Node) {
		f, p := made(t, rows), &plain{rows}
		for pattern := range rows {
			for id := range rows {
				got, ok, e := subst.Match(f, pattern, id)
				want, wantOk := p.match(pattern, id)
				if !slices.Equal(got, want) || ok != wantOk || e != api.OK {
					t.Fatalf("Match(%d, %d) of %v: %v, %v, error %d, not %v, %v", pattern, id, rows, got, ok, e, want, wantOk)
				}
			}
		}
		same(t, f, rows)
	})
}

// TestPutMatched: P7.7, Put of a pattern is matched, atom by atom as it was put in, and what Match tells, put into the pattern, is the formula.
func TestPutMatched(t *testing.T) {
	chance := newChance(4)
	for range 2000 {
		rows := someRows(chance, 3+chance.IntN(20), 1+chance.IntN(12), 4)
		f, p := made(t, rows), &plain{rows}
		pattern := chance.IntN(len(rows))
		var by []api.Hyp
		for _, name := range p.atoms(pattern) {
			by = append(by, api.Hyp{Name: name, Form: chance.IntN(len(rows))})
		}
		id, _ := subst.Put(f, pattern, by)
		got, ok, e := subst.Match(f, pattern, id)
		if !slices.Equal(got, by) || !ok || e != api.OK {
			t.Fatalf("%v, %v, error %d, not %v", got, ok, e, by)
		}
		other := chance.IntN(f.Len())
		before := f.Rows()
		if got, ok, _ := subst.Match(f, pattern, other); ok {
			id, e := subst.Put(f, pattern, got)
			answers(t, "Put of what is matched", id, e, other, api.OK)
		}
		same(t, f, before)
	}
}

// TestPutBehindPut: P7.7, putting in one behind the other is putting in once what comes of the first with the second put in.
func TestPutBehindPut(t *testing.T) {
	chance := newChance(5)
	for range 2000 {
		rows := someRows(chance, 3+chance.IntN(20), 1+chance.IntN(12), 4)
		f := made(t, rows)
		id := chance.IntN(len(rows))
		one, two := someBy(chance, len(rows)), someBy(chance, len(rows))
		half, _ := subst.Put(f, id, one)
		want, _ := subst.Put(f, half, two)
		var both []api.Hyp
		for _, h := range one {
			form, _ := subst.Put(f, h.Form, two)
			both = append(both, api.Hyp{Name: h.Name, Form: form})
		}
		for _, h := range two {
			if !slices.ContainsFunc(one, func(x api.Hyp) bool { return x.Name == h.Name }) {
				both = append(both, h)
			}
		}
		got, e := subst.Put(f, id, both)
		answers(t, "Put of both", got, e, want, api.OK)
	}
}

// TestSameCalls: R4 and R8, the same calls make the same rows, in whatever order by stands, and whatever other tables there are.
func TestSameCalls(t *testing.T) {
	chance := newChance(6)
	for range 300 {
		rows := someRows(chance, 3+chance.IntN(20), 1+chance.IntN(12), 4)
		id, by := chance.IntN(len(rows)), someBy(chance, len(rows))
		f, g := made(t, rows), made(t, rows)
		one, _ := subst.Put(f, id, by)
		slices.Reverse(by)
		two, e := subst.Put(g, id, by)
		answers(t, "Put", two, e, one, api.OK)
		same(t, g, f.Rows())
	}
}
