package counter_test

import (
	"slices"
	"testing"

	"dictum/api"
	"dictum/counter"
	"dictum/formula"
)

// refutes asks whether a world refutes a sequent, by its text.
func refutes(t *testing.T, m api.Model, w int, text string, want bool) {
	t.Helper()
	x := formula.New()
	s := readSeq(t, x, text)
	untouched(t, x, nil, m, func() {
		if is, e := counter.Refutes(x, m, w, s); is != want || e != api.OK {
			t.Errorf("%s in %d of %s: %v, error %d", text, w, show(m), is, e)
		}
	})
}

// shrinks asks for the worlds that are left of a model that refutes a sequent, by its text, and for their rows of Up.
func shrinks(t *testing.T, m api.Model, text string, left []int, rows ...[]int) {
	t.Helper()
	x := formula.New()
	s := readSeq(t, x, text)
	want := up(rows...)
	for i, w := range left {
		want.Val[i] = m.Val[w]
	}
	untouched(t, x, nil, m, func() {
		if n, l, e := counter.Shrink(x, m, s); !alike(n, want) || !slices.Equal(l, left) || e != api.OK {
			t.Errorf("%s of %s: %s of %v, error %d, not %s of %v", text, show(m), show(n), l, e, show(want), left)
		}
	})
}

// TestRefutes: P20.3, all of the left side, and not the goal, in that world alone.
func TestRefutes(t *testing.T) {
	m := with(up(to(1, 2), to(3), to(3), nil), "", "p", "p", "p,q")
	for _, c := range []struct {
		text string
		want [4]bool
	}{
		{"|- p", [4]bool{true, false, false, false}},
		{"|- q", [4]bool{true, true, true, false}},
		{"p |- q", [4]bool{false, true, true, false}},
		{"p, q |- q", [4]bool{}},
		{"p, q |- false", [4]bool{false, false, false, true}},
		{"|- false", [4]bool{true, true, true, true}},
		{"false |- false", [4]bool{}},
		{"false |- p", [4]bool{}},
		{"~~q |- q", [4]bool{true, true, true, false}},
		{"|- q | ~q", [4]bool{true, true, true, false}},
		{"~q |- p", [4]bool{}},
		{"p -> q |- q", [4]bool{}},
		{"q -> p |- p", [4]bool{true, false, false, false}},
		{"~~p, ~~q, q -> p |- p", [4]bool{true, false, false, false}},
		{"~~p, p -> q, q -> p |- p", [4]bool{}},
		{"q -> p, p -> ~~q |- p -> q", [4]bool{true, true, true, false}},
		{"|- r", [4]bool{true, true, true, true}},
		{"r |- p", [4]bool{}},
	} {
		for w, want := range c.want {
			refutes(t, m, w, c.text, want)
		}
	}
}

// TestShrinkKeepsOrder: P20.4, where a world between is left out, those below it stay below those above it; the answer's numbers are the model's.
func TestShrinkKeepsOrder(t *testing.T) {
	shrinks(t, with(chain(3), "", "", "p"), "|- ~p", to(0, 2), to(1), nil)
	shrinks(t, with(chain(4), "", "", "p", "p"), "|- ~p", to(0, 2), to(1), nil)
	shrinks(t, with(chain(5), "", "", "p", "p", "p,q"), "|- ~q | (p -> q)", to(0, 2, 4), to(1), to(2), nil)
	shrinks(t, with(up(to(3, 2), to(4), to(1), to(4), nil), "", "", "", "", "p"), "|- ~p", to(0, 4), to(1), nil)
	shrinks(t, with(up(to(1), to(2, 3), nil, nil), "", "", "p", "q"), "|- ~p | ~q", to(0, 2, 3), to(1, 2), nil, nil)
	shrinks(t, with(up(to(1), to(2, 3), nil, nil), "", "", "p", "q"), "|- ~p | q", to(0, 2), to(1), nil)
	shrinks(t, with(up(to(2), nil, to(1)), "", "p", ""), "|- ~p", to(0, 1), to(1), nil)
	shrinks(t, with(up(to(1, 2), to(3), to(3), nil), "", "p", "q", "p,q"), "|- (p -> q) | (q -> p)", to(0, 1, 2), to(1, 2), nil, nil)
}

// TestShrinkTidy: P20.4, the answer is tidy, though the model tells itself, tells twice, falls, or tells what follows.
func TestShrinkTidy(t *testing.T) {
	m := with(up(to(2, 1, 1, 0), to(2, 1), to(2)), "", "p", "p,q")
	shrinks(t, m, "|- ~p | (p -> q)", to(0, 1, 2)[:2], to(1), nil)
	shrinks(t, m, "~~q |- q | (p -> q)", to(0, 1, 2), to(1), to(2), nil)
	shrinks(t, with(up(to(3, 2, 1, 0), to(3, 2), to(3, 2), nil), "", "p", "p", "p,q"), "~~q |- p -> q", to(0, 1, 3), to(1), to(2), nil)
}

// TestShrinkGreatestFirst: P20.4, of two worlds either of which would do the greater number goes.
func TestShrinkGreatestFirst(t *testing.T) {
	shrinks(t, with(fan(4), "", "p", "p", "p"), "|- ~p", to(0, 1), to(1), nil)
	shrinks(t, with(fan(4), "", "", "p", "p"), "|- ~p", to(0, 2), to(1), nil)
	shrinks(t, with(fan(4), "", "p", "q", "p,q"), "|- ~p | ~q", to(0, 1, 2), to(1, 2), nil, nil)
	shrinks(t, with(fan(4), "", "p,q", "q", "p"), "|- ~p | ~q", to(0, 1), to(1), nil)
	shrinks(t, with(fan(4), "", "p,q", "q", "p"), "|- ~p | ~q | (p -> q)", to(0, 1, 3), to(1, 2), nil, nil)
}

// TestShrinkRoot: P20.4, worlds that are not above world 0 go, be they below it or beside it.
func TestShrinkRoot(t *testing.T) {
	shrinks(t, apart(5), "|- p", to(0), nil)
	shrinks(t, with(apart(3), "", "p", "q"), "|- p", to(0), nil)
	shrinks(t, up(nil, to(0), to(1)), "|- p", to(0), nil)
	shrinks(t, with(up(to(3), to(0), to(3), nil), "", "", "", "p"), "|- ~p", to(0, 3), to(1), nil)
	shrinks(t, with(up(nil, to(0), to(0)), "p", "", ""), "p |- q", to(0), nil)
}

// TestShrinkAlone: P20.4, what world 0 does alone it does alone; where it has no others, it stays as it is.
func TestShrinkAlone(t *testing.T) {
	shrinks(t, with(chain(3), "p", "p", "p,q"), "p |- q", to(0), nil)
	shrinks(t, with(apart(1), "p"), "p |- q", to(0), nil)
	shrinks(t, up(to(0, 0)), "|- q", to(0), nil)
	shrinks(t, with(fan(9), "", "p", "q", "p", "q", "p", "q", "p", "q"), "|- false", to(0), nil)
}

// TestShrinkNeeded: P20.4, worlds that the left side needs, and worlds that the goal needs.
func TestShrinkNeeded(t *testing.T) {
	shrinks(t, with(chain(2), "", "p"), "~~p |- p", to(0, 1), to(1), nil)
	shrinks(t, with(fan(3), "", "p", "q"), "~~(p | q) |- ~p", to(0, 1), to(1), nil)
	shrinks(t, with(fan(3), "", "p", "q"), "~~(p | q) |- ~p | ~q", to(0, 1, 2), to(1, 2), nil, nil)
	shrinks(t, with(up(to(1), to(2), nil), "", "p", "p,q"), "~~q |- p -> q", to(0, 1, 2), to(1), to(2), nil)
}

// TestShrinkOnce: P20.4, each world is looked at once: one that was needed when it was looked at stays, though it could be left out when others have been.
func TestShrinkOnce(t *testing.T) {
	m := with(up(to(1, 2), to(3), nil, nil), "", "", "p,q", "p")
	shrinks(t, m, "~~p |- ~q", to(0, 2, 3), to(1, 2), nil, nil)
	shrinks(t, with(fan(3), "", "p,q", "p"), "~~p |- ~q", to(0, 1), to(1), nil)
}

// TestShrinkOtherRows: P20.4, rows of the table of which the sequent is not made turn nothing, be they ahead, between or behind; nor do unlike numbers.
func TestShrinkOtherRows(t *testing.T) {
	m := with(chain(5), "", "", "p", "p", "p,q")
	x := formula.New()
	for _, text := range []string{"r", "r -> r", "q", "~~r", "false", "p", "p | r", "(p -> q) -> r", "p -> q", "r | r", "~q | (p -> q)", "(r -> p) & q", "~~~r"} {
		readSeq(t, x, text)
	}
	s := readSeq(t, x, "~q -> ~q, ~~q |- ~q | (p -> q)")
	want := with(chain(3), "", "p", "p,q")
	untouched(t, x, nil, m, func() {
		if n, l, e := counter.Shrink(x, m, s); !alike(n, want) || !slices.Equal(l, to(0, 2, 4)) || e != api.OK {
			t.Error(show(n), l, e)
		}
	})
}
