package morph_test

import (
	"slices"
	"testing"

	"dictum/api"
	"dictum/morph"
)

// scribbled asks that no two of the lists of an answer share memory, the room behind their ends included, and leaves nonsense in all of them.
func scribbled(t *testing.T, m api.Model, l []int) {
	t.Helper()
	numbers := append(slices.Clone(m.Up), l)
	texts := slices.Clone(m.Val)
	for i, row := range numbers {
		before := clone(api.Model{Up: numbers})
		for at := range row[:cap(row)] {
			row[:cap(row)][at] = -7
		}
		for j, other := range numbers {
			if i != j && !slices.Equal(other, before.Up[j]) {
				t.Fatalf("lists %d and %d of numbers share memory: %v was %v", i, j, other, before.Up[j])
			}
		}
	}
	for i, row := range texts {
		before := clone(api.Model{Val: texts})
		for at := range row[:cap(row)] {
			row[:cap(row)][at] = "nonsense"
		}
		for j, other := range texts {
			if i != j && !slices.Equal(other, before.Val[j]) {
				t.Fatalf("lists %d and %d of names share memory: %v was %v", i, j, other, before.Val[j])
			}
		}
	}
	clear(m.Up[:cap(m.Up)])
	clear(m.Val[:cap(m.Val)])
}

// askAll asks all calls for what they answer of a model, and scribbles in it.
func askAll(t *testing.T, m api.Model, atoms []string) {
	t.Helper()
	for w := range m.Up {
		part, l, _ := morph.Above(m, w)
		scribbled(t, part, l)
		tree, l, _ := morph.Unravel(m, w)
		scribbled(t, tree, l)
	}
	class, _ := morph.Classes(m)
	scribbled(t, api.Model{}, class)
	whole, class, _ := morph.Quotient(m)
	scribbled(t, whole, class)
	glued, places, _ := morph.Glue([]api.Model{m, m}, atoms)
	scribbled(t, glued, places)
}

// TestOwn: R3, what is answered is the caller's own: it shares nothing with what was handed in, and no two of its lists share anything.
func TestOwn(t *testing.T) {
	chance := newChance(5)
	atoms := names("P,p")
	for range 300 {
		m := rooted(chance, 8, 4)
		for w := range m.Val {
			m.Val[w] = slices.Compact(slices.Sorted(slices.Values(append(m.Val[w], atoms...))))
		}
		n := clone(m)
		untouched(t, []api.Model{m}, func() { askAll(t, m, atoms) })
		if !alike(m, n) || !slices.Equal(atoms, names("P,p")) {
			t.Fatal(show(m), atoms)
		}
		held(t, m)
		if !heldGlued(t, []api.Model{m, m}, atoms) {
			t.Fatal("a model of roots with these atoms is refused")
		}
	}
}

// TestOwnRoom: R3, what room lists that are handed in have behind their ends is neither read nor written.
func TestOwnRoom(t *testing.T) {
	numbers, words := to(1, 2, 3, 3, 1, 0), []string{"p", "q", "r", "s"}
	m := api.Model{Up: [][]int{numbers[:2], numbers[2:3], numbers[3:4], numbers[4:4]}, Val: [][]string{words[:0], words[:1], words[:1], words[:2]}}
	held(t, m)
	heldGlued(t, []api.Model{m, m}, words[:0])
	heldGlued(t, []api.Model{single("p,q")}, words[:2])
	askAll(t, m, words[:0])
	rows := [][]int{nil, {0}, {-1}}
	held(t, api.Model{Up: rows[:2], Val: make([][]string, 2, 7)})
	l := []api.Model{single("p"), {}, single("q")}
	heldGlued(t, l[:1], words[:1])
	if !slices.Equal(numbers, to(1, 2, 3, 3, 1, 0)) || !slices.Equal(words, []string{"p", "q", "r", "s"}) || !alike(l[2], single("q")) || rows[2][0] != -1 {
		t.Error(numbers, words, rows)
	}
}

// TestNilRows: R3, rows that are nil are as rows that are empty.
func TestNilRows(t *testing.T) {
	for _, m := range []api.Model{
		{Up: [][]int{{1}, nil}, Val: [][]string{nil, {"p"}}},
		{Up: [][]int{{1}, {}}, Val: [][]string{{}, {"p"}}},
	} {
		held(t, m)
		heldGlued(t, []api.Model{m, m}, nil)
		heldGlued(t, []api.Model{m, m}, []string{})
	}
	heldGlued(t, []api.Model{}, []string{})
	a := api.Model{Up: [][]int{nil}, Val: [][]string{nil}}
	b := api.Model{Up: [][]int{{}}, Val: [][]string{{}}}
	if !heldBounded(t, a, b, to(0)) || !heldBounded(t, b, a, to(0)) {
		t.Error("nil and empty rows differ")
	}
}

// TestNothingKept: R4, what was asked meanwhile turns nothing, and a model that its owner changes is read anew.
func TestNothingKept(t *testing.T) {
	chance := newChance(6)
	for range 100 {
		m, n := someModel(chance, 8, 3), someModel(chance, 8, 3)
		held(t, m)
		held(t, n)
		held(t, m)
		w := chance.IntN(len(m.Up))
		m.Up[w] = nil
		held(t, m)
		for v := range m.Val {
			m.Val[v] = nil
		}
		held(t, m)
		heldGlued(t, []api.Model{m, n}, nil)
		heldGlued(t, []api.Model{n, m}, nil)
	}
}

// TestSameTwice: P19.2, one model may be glued to itself, as often as one likes.
func TestSameTwice(t *testing.T) {
	m := diamond()
	whole, places, e := morph.Glue([]api.Model{m, m, m}, nil)
	if len(whole.Up) != 13 || !slices.Equal(places, to(1, 5, 9)) || !slices.Equal(whole.Up[0], places) || e != api.OK {
		t.Error(show(whole), places, e)
	}
	heldGlued(t, []api.Model{m, m, m}, nil)
}
