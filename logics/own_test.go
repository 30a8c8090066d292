package logics_test

import (
	"slices"
	"testing"

	"dictum/api"
	"dictum/formula"
	"dictum/logics"
)

// heldApart leaves nonsense in one list after the other, the room behind its end included, and asks that no other one of these lists is turned by that.
func heldApart[T comparable](t *testing.T, lists [][]T, nonsense T) {
	t.Helper()
	before := make([][]T, len(lists))
	for i, l := range lists {
		before[i] = slices.Clone(l)
	}
	for i, l := range lists {
		l = l[:cap(l)]
		for j := range l {
			l[j] = nonsense
		}
		for j := i + 1; j < len(lists); j++ {
			if !slices.Equal(lists[j], before[j]) {
				t.Fatalf("lists %d and %d share memory", i, j)
			}
		}
	}
	clear(lists[:cap(lists)])
}

// TestOwnModel: R3 and R4, what Model tells is the caller's own: nonsense in it is seen neither in what was handed in nor in what is told later.
func TestOwnModel(t *testing.T) {
	chance := newChance(15)
	for range 100 {
		n := 1 + chance.IntN(12)
		by := someBy(chance, n, byBytes())
		before := slices.Clone(by)
		m, _ := logics.Model(n, by)
		heldApart(t, m.Up, -7)
		heldApart(t, m.Val, "nonsense")
		if !slices.Equal(by, before) {
			t.Fatal(by, before)
		}
		heldModel(t, n, by)
	}
}

// TestOwnDummett: R3, what Dummett tells is the caller's own.
func TestOwnDummett(t *testing.T) {
	x := formula.New()
	id := read(t, x, "((p -> q) -> p) -> p")
	untouched(t, x, func() {
		_, by, _ := logics.Dummett(x, id)
		heldApart(t, [][]api.Hyp{by}, api.Hyp{Name: "nonsense", Form: -7})
		if _, by, e := logics.Dummett(x, id); !slices.Equal(by, hyps("p 1 q 0")) || e != api.OK {
			t.Error(by, e)
		}
	})
}

// TestOwnLater: R3, an answer keeps nothing of what was handed in: what its owner does to that later is not seen.
func TestOwnLater(t *testing.T) {
	by := hyps("p 1 q 2")
	m, _ := logics.Model(2, by)
	by[0], by[1] = api.Hyp{Name: "z", Form: 9}, api.Hyp{}
	if !alike(m, with(line(2), "q", "p,q")) {
		t.Error(show(m))
	}
	x := formula.New()
	_, by, _ = logics.Dummett(x, read(t, x, "p & q"))
	x.Cut(0)
	x.Atom("z")
	if !slices.Equal(by, hyps("p 0 q 0")) {
		t.Error(by)
	}
}

// TestOwnKept: R4, nothing is kept from call to call: what its owner changes is read anew.
func TestOwnKept(t *testing.T) {
	m := line(3)
	heldFits(t, m)
	m.Up[0] = to(1, 2)
	heldFits(t, m)
	m.Up[1] = nil
	if l := heldFits(t, m); slices.Contains(l, logic{api.LogicLC, 0}) {
		t.Error(l)
	}
	m.Up[0] = nil
	if l := heldFits(t, m); len(l) != len(ordered()) {
		t.Error(l)
	}
	x := made(t, atom("p"), bot(), imp(0, 1))
	by := hyps("p 0")
	for v := range 4 {
		by[0].Form = v
		heldValue(t, x, 2, 3, by)
		heldModel(t, 3, by)
	}
	heldDummett(t, x, 2)
	x.Cut(2)
	x.Imp(0, 0)
	if !heldDummett(t, x, 2) {
		t.Error("p -> p is not true")
	}
	two, _ := logics.Axiom(x, api.LogicCL, 0)
	y := formula.New()
	if id, e := logics.Axiom(y, api.LogicCL, 0); id != 3 || id == two || e != api.OK {
		t.Error(id, two, e)
	}
}

// TestOwnRoom: R7, what room lists have behind their ends is neither read nor written.
func TestOwnRoom(t *testing.T) {
	numbers, names := to(1, 2, 0, 0), []string{"p", "q", "p", "z"}
	m := api.Model{Up: [][]int{numbers[:2], numbers[2:2], numbers[:0], {-1}}[:3], Val: [][]string{names[:0], names[:1], names[:2], {"?"}}[:3]}
	if l := heldFits(t, m); !slices.Contains(l, logic{api.LogicKP, 0}) {
		t.Error(l)
	}
	by := hyps("p 1 q 2 p 0 r 9")
	heldModel(t, 2, by[:2])
	x := made(t, atom("p"), atom("q"), imp(1, 0))
	heldValue(t, x, 2, 2, by[:2])
	refusesValue(t, x, 2, 2, by[:1], api.ErrArg)
	if !slices.Equal(numbers, to(1, 2, 0, 0)) || !slices.Equal(names, []string{"p", "q", "p", "z"}) || !slices.Equal(by, hyps("p 1 q 2 p 0 r 9")) {
		t.Error(numbers, names, by)
	}
}

// TestOwnNil: R3, lists that are nil are as lists that are empty.
func TestOwnNil(t *testing.T) {
	for _, m := range []api.Model{
		{Up: [][]int{{1}, nil}, Val: [][]string{nil, {"p"}}},
		{Up: [][]int{{1}, {}}, Val: [][]string{{}, {"p"}}},
	} {
		if l := heldFits(t, m); !slices.Contains(l, logic{api.LogicSM, 0}) || slices.Contains(l, logic{api.LogicCL, 0}) {
			t.Error(l)
		}
	}
	x := made(t, bot(), imp(0, 0))
	for _, by := range [][]api.Hyp{nil, {}} {
		heldValue(t, x, 1, 2, by)
		heldModel(t, 3, by)
	}
}

// TestOwnTables: R4, what is put into one table is not seen in another one.
func TestOwnTables(t *testing.T) {
	x := formula.New()
	read(t, x, "p -> q")
	y := x.Copy()
	untouched(t, x, func() {
		logics.Axiom(y, api.LogicKP, 0)
		logics.Reduce(y, 2)
	})
	untouched(t, y, func() {
		logics.Axiom(x, api.LogicSM, 0)
		logics.Reduce(x, 2)
	})
}

// TestOwnSideBySide: R4, calls that run side by side on one table and one model read these alone.
func TestOwnSideBySide(t *testing.T) {
	m := rooted(topped(apart(2)))
	x := formula.New()
	id := read(t, x, "(~q -> p) -> ((p -> q) -> p) -> p")
	done := make(chan bool)
	for range 16 {
		go func() {
			kc, e1 := logics.Fits(m, api.LogicKC, 0)
			lc, e2 := logics.Fits(m, api.LogicLC, 0)
			is, by, e3 := logics.Dummett(x, id)
			v, e4 := logics.Value(x, id, 3, by)
			n, e5 := logics.Model(3, by)
			right := kc && !lc && !is && slices.Equal(by, hyps("p 2 q 1")) && v == 2 && alike(n, with(line(3), "", "p", "p,q"))
			done <- right && e1 == api.OK && e2 == api.OK && e3 == api.OK && e4 == api.OK && e5 == api.OK
		}()
	}
	for range 16 {
		if !<-done {
			t.Error("one answers otherwise")
		}
	}
}
