package decide_test

import (
	"slices"
	"testing"

	"dictum/api"
	"dictum/decide"
	"dictum/formula"
)

// TestEntailsNone: P21.3, of no formulas on the left it is as Form of the goal.
func TestEntailsNone(t *testing.T) {
	chance := newChance(2)
	for range 300 {
		x := made(t, someRows(chance, 2+chance.IntN(20), 1+chance.IntN(20), 3)...)
		for id := range x.Len() {
			want, e := decide.Form(x, id)
			for _, left := range [][]int{nil, {}, to(0, 1)[:0]} {
				if a, f := decide.Entails(x, left, id); !alike(a, want) || f != e {
					t.Fatalf("%d of %v: %s, error %d, not %s, error %d", id, x.Rows(), show(a), f, show(want), e)
				}
			}
		}
	}
}

// TestEntailsOrder: P21.3, the formulas stand in the order of left, like ones as often as there, and become rows from the last one on.
func TestEntailsOrder(t *testing.T) {
	x, _ := readAll(t, "p", "q", "r", "s")
	for _, c := range []struct {
		left []int
		says string
		rows []api.Node
	}{
		{nil, "s", nil},
		{to(0), "p -> s", []api.Node{imp(0, 3)}},
		{to(0, 1), "p -> q -> s", []api.Node{imp(1, 3), imp(0, 4)}},
		{to(1, 0), "q -> p -> s", []api.Node{imp(0, 3), imp(1, 4)}},
		{to(0, 0), "p -> p -> s", []api.Node{imp(0, 3), imp(0, 4)}},
		{to(2, 0, 1), "r -> p -> q -> s", []api.Node{imp(1, 3), imp(0, 4), imp(2, 5)}},
		{to(1, 2, 1, 0, 0), "q -> r -> q -> p -> p -> s", []api.Node{imp(0, 3), imp(0, 4), imp(1, 5), imp(2, 6), imp(1, 7)}},
		{to(3, 3), "s -> s -> s", []api.Node{imp(3, 3), imp(3, 4)}},
	} {
		a, e := heldEntails(t, x, c.left, 3)
		if e != api.OK || !slices.Equal(a.Rows, slices.Concat(x.Rows(), c.rows)) || says(t, made(t, a.Rows...), a.Form) != c.says {
			t.Errorf("%v: %s, rows %v, error %d", c.left, show(a), a.Rows, e)
		}
		if a.Form != 3+len(c.left) || a.Proved != slices.Contains(c.left, 3) {
			t.Errorf("%v: %s", c.left, show(a))
		}
	}
}

// TestEntailsThere: P21.3, what is a row already is not put again; what is put stands ahead of the search's rows.
func TestEntailsThere(t *testing.T) {
	x, ids := readAll(t, "p", "q", "r", "q -> r", "p & q -> r")
	rows := x.Rows()
	a, e := heldEntails(t, x, to(ids[1]), ids[2])
	if a.Form != ids[3] || !slices.Equal(a.Rows, rows) || e != api.OK {
		t.Error(show(a), e)
	}
	a, e = heldEntails(t, x, to(ids[0], ids[1]), ids[2])
	if a.Form != len(rows) || !slices.Equal(a.Rows, append(rows, imp(ids[0], ids[3]))) || e != api.OK {
		t.Error(show(a), e)
	}
	a, e = heldEntails(t, x, to(ids[4]), ids[0])
	if a.Form != len(rows) || !slices.Equal(a.Rows, append(rows, imp(ids[4], ids[0]), imp(ids[0], ids[3]))) || e != api.OK {
		t.Error(show(a), e, a.Rows)
	}
}

// TestEntailsKnown: P21.3, what some formulas prove.
func TestEntailsKnown(t *testing.T) {
	for _, c := range []struct {
		left []string
		goal string
		want bool
	}{
		{[]string{"p"}, "p", true},
		{[]string{"p"}, "q", false},
		{[]string{"p", "q"}, "p & q", true},
		{[]string{"p & q"}, "q", true},
		{[]string{"p"}, "p | q", true},
		{[]string{"p | q"}, "p", false},
		{[]string{"p | q", "~p"}, "q", true},
		{[]string{"~p", "p | q"}, "q", true},
		{[]string{"p -> q", "p"}, "q", true},
		{[]string{"p -> q", "q"}, "p", false},
		{[]string{"p -> q", "q -> r"}, "p -> r", true},
		{[]string{"~~p"}, "p", false},
		{[]string{"~~p", "p | ~p"}, "p", true},
		{[]string{"false"}, "p", true},
		{[]string{"p", "~p"}, "q", true},
		{[]string{"p", "p", "p"}, "p", true},
		{[]string{"q", "q", "q"}, "p", false},
		{[]string{"(p -> q) -> p"}, "p", false},
		{[]string{"(p -> q) -> p"}, "~~p", true},
	} {
		x := formula.New()
		var left []int
		for _, text := range c.left {
			left = append(left, read(t, x, text))
		}
		if a, e := heldEntails(t, x, left, read(t, x, c.goal)); a.Proved != c.want || e != api.OK {
			t.Errorf("%v: %s, error %d", c, show(a), e)
		}
	}
}

// TestEntailsChance: P21.3, lists by chance.
func TestEntailsChance(t *testing.T) {
	chance := newChance(3)
	got := map[api.Errno]int{}
	proved := 0
	for range 1500 {
		x := made(t, someRows(chance, 2+chance.IntN(25), 1+chance.IntN(10), 1+chance.IntN(5))...)
		var left []int
		for range chance.IntN(5) {
			left = append(left, chance.IntN(x.Len()))
		}
		a, e := heldEntails(t, x, left, chance.IntN(x.Len()))
		got[e]++
		if a.Proved {
			proved++
		}
	}
	if proved < 300 || got[api.OK]-proved < 300 {
		t.Error(proved, got)
	}
}

// TestEntailsRoom: P21.3, ErrBudget where the formula has no room; what is a row already needs none.
func TestEntailsRoom(t *testing.T) {
	x, ids := readAll(t, "p", "q", "q -> p", "p -> q -> p")
	for room := range 5 {
		full := filled(t, x.Rows(), api.MaxForms-room)
		for many := range 7 {
			left := slices.Repeat(to(ids[1]), many) // q -> p is a row, the others are none
			if need := max(many-1, 0); need > room {
				refusesEntails(t, full, left, ids[0], api.ErrBudget)
			} else if a, e := heldEntails(t, full, left, ids[0]); a.Proved || len(a.Rows) != api.MaxForms-room+need || e != api.OK {
				t.Errorf("%d of %d: %s, error %d", many, room, show(a), e)
			}
		}
		if a, e := heldEntails(t, full, to(ids[0], ids[1]), ids[0]); !a.Proved || a.Form != ids[3] || e != api.OK {
			t.Error(room, show(a), e)
		}
	}
	full := filled(t, x.Rows(), api.MaxForms)
	refusesEntails(t, full, to(1023), 1022, api.ErrBudget)
	refusesEntails(t, full, make([]int, 1<<20), ids[0], api.ErrBudget)
}

// TestEntailsLong: P21.3, as long a list as there is room for, and one more.
func TestEntailsLong(t *testing.T) {
	x, ids := readAll(t, "p", "q")
	for _, many := range to(1000, 1021, 1022) {
		a, e := heldEntails(t, x, make([]int, many), ids[1])
		if a.Proved || a.Form != many+1 || a.Visits != many+1 || !alikeModel(a.Model, with(up(nil), "p")) || e != api.OK {
			t.Error(many, show(a), e)
		}
	}
	for _, many := range to(1023, 1024, 5000) {
		refusesEntails(t, x, make([]int, many), ids[1], api.ErrBudget)
	}
}

// TestEntailsRoomBehind: R7, what room a list has behind its end is nobody's.
func TestEntailsRoomBehind(t *testing.T) {
	x, ids := readAll(t, "p", "q", "p -> q")
	list := to(ids[2], ids[0], -7, 99)
	if a, e := heldEntails(t, x, list[:1], ids[1]); a.Proved || e != api.OK {
		t.Error(show(a), e)
	}
	if a, e := heldEntails(t, x, list[:2], ids[1]); !a.Proved || e != api.OK {
		t.Error(show(a), e)
	}
	if !slices.Equal(list, to(ids[2], ids[0], -7, 99)) {
		t.Error(list)
	}
}
