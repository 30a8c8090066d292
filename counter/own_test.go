package counter_test

import (
	"slices"
	"testing"

	"dictum/api"
	"dictum/counter"
)

// scribbled asks that no two of the lists of an answer share memory, the room behind their ends included, and leaves nonsense in all of them.
func scribbled(t *testing.T, m api.Model, l []int) {
	t.Helper()
	lists := append(slices.Clone(m.Up), l)
	for i, row := range lists {
		before := clone(api.Model{Up: lists})
		for at := range row[:cap(row)] {
			row[:cap(row)][at] = -7
		}
		for j, other := range lists {
			if i != j && !slices.Equal(other, before.Up[j]) {
				t.Fatalf("lists %d and %d of numbers share memory: %v was %v", i, j, other, before.Up[j])
			}
		}
	}
	for i, row := range m.Val {
		before := clone(m)
		for at := range row[:cap(row)] {
			row[:cap(row)][at] = "nonsense"
		}
		for j, other := range m.Val {
			if i != j && !slices.Equal(other, before.Val[j]) {
				t.Fatalf("lists %d and %d of names share memory: %v was %v", i, j, other, before.Val[j])
			}
		}
	}
	clear(m.Up[:cap(m.Up)])
	clear(m.Val[:cap(m.Val)])
}

// TestOwnModel: R3, what Model answers is the caller's own: it shares nothing with the steps, and no two of its lists share anything.
func TestOwnModel(t *testing.T) {
	chance := newChance(5)
	many := 0
	for range 600 {
		x, steps := someSteps(t, chance, 30)
		for at, step := range steps {
			if step.Proved {
				continue
			}
			untouched(t, x, steps, api.Model{}, func() {
				m, l, _ := counter.Model(x, steps, at)
				scribbled(t, m, l)
			})
			if m, _ := heldStep(t, x, steps, at); len(m.Up) > 3 {
				many++
			}
		}
	}
	if many < 30 {
		t.Errorf("%d models of more than three worlds", many)
	}
}

// TestOwnShrink: R3, what Shrink answers shares nothing with the model, whether worlds are left out or not.
func TestOwnShrink(t *testing.T) {
	chance := newChance(6)
	var some, all int
	for range 1500 {
		x, m := made(t, implications()...), someModel(chance, 6)
		s, ok := someRefuted(chance, x, m, 9)
		if !ok {
			continue
		}
		untouched(t, x, nil, m, func() {
			n, l, e := counter.Shrink(x, m, s)
			if e != api.OK {
				t.Fatal(show(m), showSeq(s), e)
			}
			if len(l) == len(m.Up) {
				all++
			} else {
				some++
			}
			scribbled(t, n, l)
		})
	}
	if some < 300 || all < 30 {
		t.Error(some, all)
	}
}

// TestOwnRoom: R3 and R7, what room lists that are handed in have behind their ends is neither read nor written.
func TestOwnRoom(t *testing.T) {
	x := exampleTable(t)
	kids := to(0, 2, 1, 1)
	steps := exampleSteps()
	steps[2].Kids, steps[3].Kids, steps[0].Kids = kids[3:], kids[:2], kids[1:1]
	if m, l, e := counter.Model(x, steps[:4:4], 3); !alike(m, exampleModel()) || !slices.Equal(l, to(3, 1, 0)) || e != api.OK {
		t.Error(show(m), l, e)
	}
	rows, words := to(1, 2, 0, 1), []string{"p", "q", "r"}
	m := api.Model{Up: [][]int{rows[:2], rows[1:1], rows[3:3], rows[:4]}[:3], Val: [][]string{words[:0], words[:1], words[1:1], words[:3]}[:3]}
	heldSeq(t, x, m, seq(5))
	heldSeq(t, x, m, seq(0))
	n, l, _ := counter.Shrink(x, m, seq(5))
	scribbled(t, n, l)
	if !slices.Equal(kids, to(0, 2, 1, 1)) || !slices.Equal(rows, to(1, 2, 0, 1)) || !slices.Equal(words, []string{"p", "q", "r"}) {
		t.Error(kids, rows, words)
	}
}

// TestNilRows: R3, lists that are nil are as lists that are empty.
func TestNilRows(t *testing.T) {
	x := exampleTable(t)
	for _, m := range []api.Model{
		{Up: [][]int{{1}, nil}, Val: [][]string{nil, {"p"}}},
		{Up: [][]int{{1}, {}}, Val: [][]string{{}, {"p"}}},
	} {
		if heldSeq(t, x, m, seq(5)) != 2 || heldSeq(t, x, m, seq(0)) != 1 {
			t.Error(show(m))
		}
	}
	steps := exampleSteps()
	steps[0].Kids, steps[1].Kids = []int{}, []int{}
	heldStep(t, x, steps, 3)
}

// TestNothingKept: R4, what was asked meanwhile turns nothing; a table that grew or was cut, steps and models that their owner changes are read anew.
func TestNothingKept(t *testing.T) {
	x, steps, m := exampleTable(t), exampleSteps(), exampleModel()
	chance := newChance(7)
	for range 40 {
		heldStep(t, x, steps, 3)
		heldSeq(t, x, m, seq(5))
		y, other := someSteps(t, chance, 20)
		if len(other) > 0 {
			heldStep(t, y, other, len(other)-1)
		}
		heldSeq(t, y, someModel(chance, 5), someSeq(chance, y.Len(), 2))
		heldStep(t, x, steps, 2)
		x.Atom("fresh")
		heldStep(t, x, steps, 3)
		x.Cut(6)
	}
	steps = append(steps, stuck(seq(0)))
	steps[3].Kids = to(0, 2)
	heldStep(t, x, steps, 3)
	steps[3], steps[4] = steps[4], steps[3]
	steps[4].Kids[0] = 3
	heldStep(t, x, steps, 4)
	m.Val[1] = nil
	heldSeq(t, x, m, seq(5))
	m.Up[0] = to(2)
	heldSeq(t, x, m, seq(0))
	m.Up[2] = to(0)
	refusesShrink(t, x, m, seq(0), api.ErrModel)
	steps[3].Main = 1
	refusesSteps(t, x, steps, 4, api.ErrSteps)
}
