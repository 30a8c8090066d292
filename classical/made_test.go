package classical_test

import (
	"slices"
	"testing"

	"dictum/api"
	"dictum/formula"
)

// named is the call with that name.
func named(t *testing.T, name string) making {
	t.Helper()
	at := slices.IndexFunc(makings(), func(k making) bool { return k.name == name })
	if at < 0 {
		t.Fatal(name)
	}
	return makings()[at]
}

// TestMadeKnown: P22.3 and P22.4, what is made of some formulas, written out.
func TestMadeKnown(t *testing.T) {
	for name, list := range map[string][][2]string{
		"Double": {{"p", "~~p"}, {"false", "~~false"}, {"true", "~~true"}, {"~p", "~~~p"}, {"~~p", "~~~~p"}, {"p & q", "~~(p & q)"}, {"p -> q", "~~(p -> q)"}},
		"Kolmogorov": {
			{"p", "~~p"},
			{"false", "false"},
			{"true", "~~true"},
			{"~p", "~~~~~p"},
			{"p & q", "~~(~~p & ~~q)"},
			{"p | q", "~~(~~p | ~~q)"},
			{"p -> q", "~~(~~p -> ~~q)"},
			{"false & p", "~~(false & ~~p)"},
			{"p & p", "~~(~~p & ~~p)"},
			{"(p | q) & r", "~~(~~(~~p | ~~q) & ~~r)"},
			{"p -> q -> p", "~~(~~p -> ~~(~~q -> ~~p))"},
			{"~~p", "~~~~~~~~p"},
		},
		"Gentzen": {
			{"p", "~~p"},
			{"false", "false"},
			{"true", "true"},
			{"~p", "~~~p"},
			{"p & q", "~~p & ~~q"},
			{"p -> q", "~~p -> ~~q"},
			{"p | q", "~(~~~p & ~~~q)"},
			{"p | p", "~(~~~p & ~~~p)"},
			{"false | p", "~(~false & ~~~p)"},
			{"p | false", "~(~~~p & ~false)"},
			{"false | false", "~(~false & ~false)"},
			{"p | q | r", "~(~~(~~~p & ~~~q) & ~~~r)"},
			{"(p | q) & r -> p", "~(~~~p & ~~~q) & ~~r -> ~~p"},
			{"p | q & r", "~(~~~p & ~(~~q & ~~r))"},
			{"p | (q -> r)", "~(~~~p & ~(~~q -> ~~r))"},
		},
		"Negations": {
			{"p", "p"},
			{"false", "false"},
			{"true", "true | false"},
			{"~p", "~p | false"},
			{"~~p", "p & true | false"},
			{"~~~p", "(~p | false) & true | false"},
			{"p & q", "p & q"},
			{"p | q", "p | q"},
			{"p -> q", "~p | q"},
			{"~(p & q)", "~p | ~q | false"},
			{"~(p | q)", "~p & ~q | false"},
			{"~(p -> q)", "p & ~q | false"},
			{"~(false & p)", "true | ~p | false"},
			{"(p -> q) -> r", "p & ~q | r"},
			{"p -> q -> r", "~p | (~q | r)"},
			{"(p & q | r) & ~q", "(p & q | r) & (~q | false)"},
			{"~(p & q | r)", "(~p | ~q) & ~r | false"},
			{"~((p -> q) & (q -> p))", "p & ~q | q & ~p | false"},
			{"(p | ~p) & (~p -> p)", "(p | (~p | false)) & (p & true | p)"},
		},
	} {
		for _, c := range list {
			x := formula.New()
			id := read(t, x, c[0])
			form, e := heldMade(t, named(t, name), x, id)
			if got := says(t, x, form); e != api.OK || got != says(t, x, read(t, x, c[1])) || read(t, x, c[1]) != form {
				t.Errorf("%s of %s: %s, error %d, not %s", name, c[0], got, e, c[1])
			}
		}
	}
}

// TestMadeRows: P22.3, P22.4 and R9, the order in which the formulas that are made become rows behind the old ones, and that what is one already is not put again.
func TestMadeRows(t *testing.T) {
	pq := func(k api.Kind) []api.Node { return []api.Node{atom("p"), atom("q"), join(k, 0, 1)} }
	for _, c := range []struct {
		name string
		rows []api.Node
		id   int
		more []api.Node
		want int
	}{
		{"Double", []api.Node{atom("p")}, 0, []api.Node{bot(), imp(0, 1), imp(2, 1)}, 3},
		{"Double", []api.Node{bot()}, 0, []api.Node{imp(0, 0), imp(1, 0)}, 2},
		{"Double", []api.Node{atom("p"), bot()}, 0, []api.Node{imp(0, 1), imp(2, 1)}, 3},
		{"Double", []api.Node{atom("p"), bot(), imp(0, 1)}, 0, []api.Node{imp(2, 1)}, 3},
		{"Double", []api.Node{atom("p"), bot(), imp(0, 1), imp(2, 1), atom("q")}, 0, nil, 3},
		{"Double", []api.Node{atom("p"), atom("q")}, 1, []api.Node{bot(), imp(1, 2), imp(3, 2)}, 4},
		{"Kolmogorov", []api.Node{bot(), atom("p")}, 0, nil, 0},
		{"Kolmogorov", pq(api.KAnd), 2, []api.Node{bot(), imp(0, 3), imp(4, 3), imp(1, 3), imp(6, 3), and(5, 7), imp(8, 3), imp(9, 3)}, 10},
		{"Kolmogorov", []api.Node{atom("q"), atom("p"), or(1, 0)}, 2, []api.Node{bot(), imp(0, 3), imp(4, 3), imp(1, 3), imp(6, 3), or(7, 5), imp(8, 3), imp(9, 3)}, 10},
		{"Kolmogorov", []api.Node{bot(), imp(0, 0), atom("p")}, 1, []api.Node{imp(1, 0), imp(3, 0)}, 4},
		{"Kolmogorov", []api.Node{atom("p"), bot(), imp(0, 1)}, 2, []api.Node{imp(2, 1), imp(3, 1), imp(4, 1), imp(5, 1)}, 6},
		{"Kolmogorov", []api.Node{atom("p"), and(0, 0), atom("q"), or(1, 2)}, 3, []api.Node{bot(), imp(0, 4), imp(5, 4), and(6, 6), imp(7, 4), imp(8, 4), imp(2, 4), imp(10, 4), or(9, 11), imp(12, 4), imp(13, 4)}, 14},
		{"Gentzen", []api.Node{bot(), atom("p")}, 0, nil, 0},
		{"Gentzen", []api.Node{atom("p"), bot(), imp(1, 1)}, 2, nil, 2},
		{"Gentzen", pq(api.KAnd), 2, []api.Node{bot(), imp(0, 3), imp(4, 3), imp(1, 3), imp(6, 3), and(5, 7)}, 8},
		{"Gentzen", pq(api.KImp), 2, []api.Node{bot(), imp(0, 3), imp(4, 3), imp(1, 3), imp(6, 3), imp(5, 7)}, 8},
		{"Gentzen", pq(api.KOr), 2, []api.Node{bot(), imp(0, 3), imp(4, 3), imp(1, 3), imp(6, 3), imp(5, 3), imp(7, 3), and(8, 9), imp(10, 3)}, 11},
		{"Gentzen", []api.Node{atom("q"), atom("p"), or(1, 0)}, 2, []api.Node{bot(), imp(0, 3), imp(4, 3), imp(1, 3), imp(6, 3), imp(7, 3), imp(5, 3), and(8, 9), imp(10, 3)}, 11},
		{"Gentzen", []api.Node{bot(), or(0, 0)}, 1, []api.Node{imp(0, 0), and(2, 2), imp(3, 0)}, 4},
		{"Negations", []api.Node{atom("p"), or(0, 0), and(1, 0)}, 2, nil, 2},
		{"Negations", pq(api.KImp), 2, []api.Node{bot(), imp(0, 3), or(4, 1)}, 5},
		{"Negations", []api.Node{bot(), imp(0, 0)}, 1, []api.Node{or(1, 0)}, 2},
		{"Negations", []api.Node{bot(), or(0, 0), imp(1, 0)}, 2, []api.Node{imp(0, 0), and(3, 3), or(4, 0)}, 5},
		{"Negations", []api.Node{atom("q"), atom("p"), or(1, 0), imp(2, 1)}, 3, []api.Node{bot(), imp(1, 4), imp(0, 4), and(5, 6), or(7, 1)}, 8},
		{"Negations", []api.Node{atom("p"), atom("q"), imp(0, 1), imp(1, 0), and(3, 2)}, 4, []api.Node{bot(), imp(1, 5), or(6, 0), imp(0, 5), or(8, 1), and(7, 9)}, 10},
		{"Negations", []api.Node{atom("p"), atom("q"), imp(0, 1), imp(1, 0), imp(2, 3)}, 4, []api.Node{bot(), imp(1, 5), and(0, 6), or(6, 0), or(7, 8)}, 9},
		{"Negations", []api.Node{atom("p"), atom("q"), imp(1, 0), and(2, 1), imp(3, 0)}, 4, []api.Node{bot(), imp(0, 5), and(1, 6), imp(1, 5), or(7, 8), or(9, 0)}, 10},
	} {
		x := made(t, c.rows...)
		got, e := heldMade(t, named(t, c.name), x, c.id)
		if got != c.want || e != api.OK || !slices.Equal(x.Rows(), append(slices.Clone(c.rows), c.more...)) {
			t.Errorf("%s(%d) of %v: %d, error %d, rows %v, not %d, %v", c.name, c.id, c.rows, got, e, x.Rows(), c.want, c.more)
		}
		behind := x.Rows()
		if again, e := heldMade(t, named(t, c.name), x, c.id); again != got || e != api.OK || !slices.Equal(x.Rows(), behind) {
			t.Errorf("%s(%d) of %v again: %d, error %d, rows %v", c.name, c.id, c.rows, again, e, x.Rows())
		}
	}
}

// TestMadeSmall: P22.3 and P22.4, the last formula of all small tables, row for row.
func TestMadeSmall(t *testing.T) {
	small([]api.Node{atom("b"), bot(), atom("a")}, 2, func(rows []api.Node) {
		for _, k := range makings() {
			heldMade(t, k, made(t, rows...), len(rows)-1)
		}
	})
}

// TestMadeChance: P22.3 and P22.4, calls by chance, one behind the other in one table, also where it is nearly full.
func TestMadeChance(t *testing.T) {
	chance := newChance(4)
	got := map[string]map[api.Errno]int{}
	for range 400 {
		rows := someRows(chance, 2+chance.IntN(40), 1+chance.IntN(20), 1+chance.IntN(6))
		x := made(t, rows...)
		if chance.IntN(2) == 0 {
			x = filled(t, rows, api.MaxForms-chance.IntN(100))
		}
		for range 8 {
			k := makings()[chance.IntN(4)]
			_, e := heldMade(t, k, x, chance.IntN(len(rows)))
			if got[k.name] == nil {
				got[k.name] = map[api.Errno]int{}
			}
			got[k.name][e]++
		}
	}
	for _, k := range makings() {
		if got[k.name][api.OK] < 200 || got[k.name][api.ErrForms] < 20 || len(got[k.name]) != 2 {
			t.Error(k.name, got)
		}
	}
}

// TestMadeRoom: P22.3 and P22.4, with each number of free rows: ErrForms and the table as it was, where one is missing; with as many as there must be, the formula.
func TestMadeRoom(t *testing.T) {
	for _, text := range append(alwaysTexts(), sometimesTexts()...) {
		for _, k := range makings() {
			x := formula.New()
			id := read(t, x, text)
			rows := x.Rows()
			more, want, _ := plainMade(k, rows, id)
			for room := range len(more) + 2 {
				full := filled(t, rows, api.MaxForms-room)
				got, e := heldMade(t, k, full, id)
				if (e == api.OK) != (room >= len(more)) || e != api.OK && (e != api.ErrForms || got != 0 || full.Len() != api.MaxForms-room) {
					t.Errorf("%s of %s with room for %d: %d, error %d", k.name, text, room, got, e)
				}
				if id, e := full.Atom("anew"); e == api.OK && id != full.Len()-1 {
					t.Errorf("%s of %s with room for %d: a new row is number %d", k.name, text, room, id)
				}
			}
			full := filled(t, append(rows, more...), api.MaxForms)
			if got, e := heldMade(t, k, full, id); got != want || e != api.OK {
				t.Errorf("%s of %s with all rows: %d, error %d", k.name, text, got, e)
			}
		}
	}
}

// TestMadeRoomAgain: P22.3, what was refused for want of room is made when there is some, with the numbers that it would have had.
func TestMadeRoomAgain(t *testing.T) {
	for _, k := range makings() {
		x := formula.New()
		id := read(t, x, "(p | q -> r) -> p")
		rows := x.Rows()
		full := filled(t, rows, api.MaxForms-1)
		if got, e := heldMade(t, k, full, id); got != 0 || e != api.ErrForms {
			t.Errorf("%s: %d, error %d", k.name, got, e)
		}
		full.Cut(len(rows))
		got, e := heldMade(t, k, full, id)
		want, _ := heldMade(t, k, x, id)
		if got != want || e != api.OK || !slices.Equal(full.Rows(), x.Rows()) {
			t.Errorf("%s: %d, error %d, not %d", k.name, got, e, want)
		}
	}
}
