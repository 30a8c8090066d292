package force_test

import (
	"slices"
	"testing"

	"dictum/api"
	"dictum/force"
)

// TestOwnWorlds: R3, what Worlds tells is the caller's own.
func TestOwnWorlds(t *testing.T) {
	x, m := exampleTable(t), exampleModel()
	untouched(t, x, m, func() {
		one, _ := force.Worlds(x, m, 4)
		one[0], one[1] = 7, 7
		_ = append(one[:0], 9, 9)
		if two, e := force.Worlds(x, m, 4); !slices.Equal(two, to(0, 1)) || e != api.OK {
			t.Error(two, e)
		}
	})
}

// TestOwnFrame: R3, what Frame tells shares nothing with what was handed in, and no two of its rows share anything.
func TestOwnFrame(t *testing.T) {
	x := exampleTable(t)
	m := with(up(to(1, 2), to(2), nil), "p", "p", "p")
	want := with(up(to(1, 2), to(2), nil), "", "", "p")
	untouched(t, x, m, func() {
		_, one, _ := force.Frame(x, m, 3)
		for w := range one.Up {
			one.Up[w] = append(one.Up[w], 5, 6, 7)
			one.Val[w] = append(one.Val[w], "x", "y", "z")
		}
		if !alike(one, api.Model{Up: [][]int{{1, 2, 5, 6, 7}, {2, 5, 6, 7}, {5, 6, 7}}, Val: [][]string{{"x", "y", "z"}, {"x", "y", "z"}, {"p", "x", "y", "z"}}}) {
			t.Error(show(one))
		}
		for w := range one.Up {
			clear(one.Up[w])
			clear(one.Val[w])
		}
		clear(one.Up)
		clear(one.Val)
		if is, two, e := force.Frame(x, m, 3); is || !alike(two, want) || e != api.OK {
			t.Error(is, show(two), e)
		}
	})
}

// TestOwnRoom: R3, what room rows that are handed in have behind their end is nobody's: it is neither read nor written.
func TestOwnRoom(t *testing.T) {
	x := exampleTable(t)
	numbers := to(1, 0, 1, 0)
	words := []string{"p", "q", "r"}
	m := api.Model{Up: [][]int{numbers[:1], numbers[2:2]}, Val: [][]string{words[:0], words[:1]}}
	if l, e := force.Worlds(x, m, 3); !slices.Equal(l, to(1)) || e != api.OK {
		t.Error(l, e)
	}
	_, got, _ := force.Frame(x, m, 3)
	for w := range got.Up {
		got.Up[w] = append(got.Up[w], 8)
		got.Val[w] = append(got.Val[w], "s")
	}
	if !slices.Equal(numbers, to(1, 0, 1, 0)) || !slices.Equal(words, []string{"p", "q", "r"}) {
		t.Error(numbers, words)
	}
}

// TestNilRows: R3, rows that are nil are as rows that are empty.
func TestNilRows(t *testing.T) {
	x := exampleTable(t)
	for _, m := range []api.Model{
		{Up: [][]int{{1}, nil}, Val: [][]string{nil, {"p"}}},
		{Up: [][]int{{1}, {}}, Val: [][]string{{}, {"p"}}},
	} {
		heldModel(t, x, m)
		heldFrame(t, x, m, 3)
	}
}

// TestNothingKept: R4, what other tables and models were asked meanwhile turns nothing, and a table that grew or was cut is asked anew.
func TestNothingKept(t *testing.T) {
	chance := newChance(5)
	for range 200 {
		x := made(t, someRows(chance, 12, 8, 3)...)
		y := made(t, someRows(chance, 12, 8, 3)...)
		m, n := someModel(chance, 5), someModel(chance, 5)
		heldModel(t, x, m)
		heldModel(t, y, n)
		heldModel(t, x, n)
		heldFrame(t, y, m, 11)
		x.Cut(6)
		heldModel(t, x, m)
		x.Atom("fresh")
		x.Imp(6, 0)
		heldModel(t, x, m)
		heldFrame(t, x, n, x.Len()-1)
	}
}

// TestChangedModel: R3 and R4, a model that its owner changes between two calls is read anew.
func TestChangedModel(t *testing.T) {
	x, m := exampleTable(t), exampleModel()
	heldModel(t, x, m)
	m.Val[1] = nil
	heldModel(t, x, m)
	m.Up[0] = nil
	m.Val[0] = []string{"p"}
	heldModel(t, x, m)
	m.Up[1] = to(0)
	heldModel(t, x, m)
	m.Up[0] = to(1)
	if _, e := force.Worlds(x, m, 0); e != api.ErrModel {
		t.Error(e)
	}
}
