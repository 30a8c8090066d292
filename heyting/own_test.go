package heyting_test

import (
	"slices"
	"testing"

	"dictum/api"
	"dictum/heyting"
)

// heldApart leaves nonsense in one list after the other, the room behind its end included, and asks that no other one of these lists is turned by that.
func heldApart[T comparable](t *testing.T, lists [][]T, nonsense T) {
	t.Helper()
	before := make([][]T, len(lists))
	for i, l := range lists {
		before[i] = slices.Clone(l)
	}
	for i, l := range lists {
		l = l[:cap(l)]
		for j := range l {
			l[j] = nonsense
		}
		for j := i + 1; j < len(lists); j++ {
			if !slices.Equal(lists[j], before[j]) {
				t.Fatalf("lists %d and %d share memory", i, j)
			}
		}
	}
	clear(lists[:cap(lists)])
}

// scribbled leaves nonsense in all that is told of a model and of an algebra.
func scribbled(t *testing.T, m api.Model, a api.Algebra) {
	t.Helper()
	u, sets, _ := heyting.Ups(m)
	heldApart(t, u.Leq, true)
	heldApart(t, sets, -7)
	by, _ := heyting.Atoms(m)
	heldApart(t, [][]api.Hyp{by}, api.Hyp{Name: "nonsense", Form: -7})
	n, primes, _ := heyting.Primes(a)
	heldApart(t, append(n.Up, primes), -7)
	heldApart(t, n.Val, "nonsense")
	for many := range 12 {
		c, _ := heyting.Chain(many)
		heldApart(t, c.Leq, many%2 == 0)
	}
}

// TestOwn: R3 and R4, what is told is the caller's own: nonsense in it is seen neither in what was handed in nor in what is told later.
func TestOwn(t *testing.T) {
	chance := newChance(10)
	for range 100 {
		m := someModel(chance, 6, 5)
		a, _, e := heyting.Ups(m)
		if e != api.OK || len(a.Leq) > 20 {
			continue
		}
		unturnedModel(t, m, func() {
			unturned(t, a, func() { scribbled(t, m, a) })
		})
		heldModel(t, m)
		held(t, a)
		if c, _ := heyting.Chain(7); !alike(c, row(7)) {
			t.Fatal(show(c))
		}
	}
}

// TestOwnLater: R3, an answer keeps nothing of what was handed in: what its owner does to that later is not seen.
func TestOwnLater(t *testing.T) {
	m := with(up(to(1, 2), to(3), to(3), nil), "", "p", "", "p,q")
	a, sets, _ := heyting.Ups(m)
	by, _ := heyting.Atoms(m)
	n, primes, _ := heyting.Primes(a)
	wasA, wasSets, wasBy, wasN := clone(a), slices.Clone(sets), slices.Clone(by), cloneModel(n)
	m.Up[0][0], m.Up[1], m.Val[1][0], m.Val[3] = 3, nil, "z", nil
	if !alike(a, wasA) || !slices.EqualFunc(sets, wasSets, slices.Equal[[]int]) || !slices.Equal(by, wasBy) {
		t.Error(show(a), sets, by)
	}
	heldApart(t, a.Leq, true)
	if !alikeModel(n, wasN) || !slices.Equal(primes, to(1, 2, 3, 5)) {
		t.Error(showModel(n), primes)
	}
}

// TestOwnKept: R4, nothing is kept from call to call: an algebra or a model that its owner changes is read anew.
func TestOwnKept(t *testing.T) {
	a := subsets(3)
	held(t, a)
	for _, pair := range [][2]int{{1, 2}, {0, 7}, {7, 0}, {3, 3}, {1, 3}} {
		x, y := pair[0], pair[1]
		a.Leq[x][y] = !a.Leq[x][y]
		if held(t, a) {
			t.Errorf("with %d and %d turned it is one", x, y)
		}
		a.Leq[x][y] = !a.Leq[x][y]
		if !held(t, a) {
			t.Errorf("with %d and %d turned back it is none", x, y)
		}
	}
	m := with(up(to(1), to(2), nil), "", "p", "p")
	heldModel(t, m)
	m.Up[1] = nil
	heldModel(t, m)
	m.Val[2] = nil
	heldModel(t, m)
}

// TestOwnRoom: R7, what room lists have behind their ends is neither read nor written.
func TestOwnRoom(t *testing.T) {
	entries := slices.Repeat([]bool{true, false, true}, 9)
	var a api.Algebra
	rows := make([][]bool, 0, 9)
	for x := range 3 {
		row := entries[9*x : 9*x+3]
		for y := range row {
			row[y] = x <= y
		}
		rows = append(rows, row)
	}
	a.Leq = append(rows, []bool{true})[:3]
	before := slices.Clone(entries)
	if !held(t, a) {
		t.Error("three in a row are refused")
	}
	by := hyps("p 1 q 2 p 0 r 9")
	x := made(t, atom("p"), atom("q"), join(api.KImp, 1, 0))
	if !heldValue(t, a, x, 2, by[:2]) {
		t.Error("what stands behind the end is read")
	}
	numbers, names := to(1, 2, 0, 0), []string{"p", "q", "p", "z"}
	m := api.Model{Up: [][]int{numbers[:2], numbers[2:2], numbers[:0], {-1}}[:3], Val: [][]string{names[:0], names[:1], names[:2], {"?"}}[:3]}
	if !heldModel(t, m) {
		t.Error("what stands behind the end is read")
	}
	if !slices.Equal(entries, before) || !slices.Equal(numbers, to(1, 2, 0, 0)) || !slices.Equal(names, []string{"p", "q", "p", "z"}) || !slices.Equal(by, hyps("p 1 q 2 p 0 r 9")) {
		t.Error(entries, numbers, names, by)
	}
}

// TestOwnNil: R3, lists that are nil are as lists that are empty; one list may be several rows.
func TestOwnNil(t *testing.T) {
	for _, m := range []api.Model{
		{Up: [][]int{{1}, nil}, Val: [][]string{nil, {"p"}}},
		{Up: [][]int{{1}, {}}, Val: [][]string{{}, {"p"}}},
	} {
		if !heldModel(t, m) {
			t.Error("it is refused")
		}
	}
	x := made(t, bot(), join(api.KImp, 0, 0))
	if !heldValue(t, row(2), x, 1, nil) || !heldValue(t, row(2), x, 1, []api.Hyp{}) {
		t.Error("a formula without atoms is refused")
	}
	same := []bool{true, true}
	if held(t, api.Algebra{Leq: [][]bool{same, same}}) {
		t.Error("two at most each other are one")
	}
}

// TestOwnSideBySide: R4, calls that run side by side on one algebra, one model and one table read these alone.
func TestOwnSideBySide(t *testing.T) {
	m := with(up(to(1, 2), to(3), to(3), nil), "", "p", "", "p,q")
	a, sets, _ := heyting.Ups(m)
	x := made(t, atom("p"), atom("q"), join(api.KImp, 1, 0), join(api.KOr, 0, 2))
	by := hyps("p 2 q 1")
	want, _ := heyting.Value(a, x, 3, by)
	done := make(chan bool)
	for range 16 {
		go func() {
			u, l, _ := heyting.Ups(m)
			hyps, _ := heyting.Atoms(m)
			n, primes, _ := heyting.Primes(a)
			v, e := heyting.Value(a, x, 3, by)
			right := alike(u, a) && slices.EqualFunc(l, sets, slices.Equal[[]int]) && len(hyps) == 2
			done <- right && len(n.Up) == len(primes) && v == want && e == api.OK && heyting.Check(a) == api.OK
		}()
	}
	for range 16 {
		if !<-done {
			t.Error("one answers otherwise")
		}
	}
}
