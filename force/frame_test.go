package force_test

import (
	"slices"
	"testing"

	"dictum/api"
	"dictum/force"
	"dictum/formula"
	"dictum/worlds"
)

// TestFrameAtomsOrder: P18.3, atoms are taken by bytes, not as they stand in the formula or the table: the first one's number rises last.
func TestFrameAtomsOrder(t *testing.T) {
	x := formula.New()
	fork := up(to(1, 2), nil, nil)
	for s, want := range map[string]api.Model{
		"(p -> q) | (q -> p)": with(fork, "", "p", "q"),
		"(q -> p) | (p -> q)": with(fork, "", "p", "q"),
		"(p -> P) | (P -> p)": with(fork, "", "P", "p"),
		"~(q & p)":            with(fork, "", "p,q", ""),
		"~(q & p')":           with(fork, "", "p',q", ""),
		"q":                   fork,
		"p -> q":              with(fork, "", "p", ""),
		"q -> p":              with(fork, "", "q", ""),
		"p & q":               fork,
		"r -> q | p":          with(fork, "", "r", ""),
		"p -> q | r":          with(fork, "", "p", ""),
		"p & r -> q":          with(fork, "", "p,r", ""),
	} {
		id := read(t, x, s)
		if is, got, e := force.Frame(x, fork, id); is || !alike(got, want) || e != api.OK {
			t.Errorf("Frame(%s): %v, %s, error %d, not %s", s, is, show(got), e, show(want))
		}
	}
}

// TestFrameVal: P18.3, what Val says does not matter, whether it has the formula's atoms or others.
func TestFrameVal(t *testing.T) {
	x := exampleTable(t)
	for _, m := range []api.Model{up(to(1), nil), with(up(to(1), nil), "p", "p"), with(up(to(1), nil), "", "p"), with(up(to(1), nil), "a,z", "a,b,p,z")} {
		if is, got, e := force.Frame(x, m, 3); is || !alike(got, with(up(to(1), nil), "", "p")) || e != api.OK {
			t.Errorf("Frame(%s): %v, %s, error %d", show(m), is, show(got), e)
		}
	}
}

// TestFrameUp: P18.3, the answer's Up is as it was handed in, row by row, tidy or not.
func TestFrameUp(t *testing.T) {
	x := exampleTable(t)
	rows := [][]int{{2, 1, 0, 2, 2}, {2, 1}, {2, 2}}
	is, got, e := force.Frame(x, up(rows...), 3)
	if is || !alike(got, with(up(rows...), "", "", "p")) || e != api.OK {
		t.Error(is, show(got), e)
	}
}

// TestFrameNoAtoms: P18.3, of a formula without atoms there is one model.
func TestFrameNoAtoms(t *testing.T) {
	x := formula.New()
	m := with(up(to(1), nil), "", "p")
	for s, want := range map[string]bool{"false": false, "true": true, "~true": false, "~~true": true, "true & false": false, "true | false": true} {
		is, got, e := force.Frame(x, m, read(t, x, s))
		if is != want || e != api.OK || is != empty(got) || !is && !alike(got, up(to(1), nil)) {
			t.Errorf("Frame(%s): %v, %s, error %d", s, is, show(got), e)
		}
	}
}

// allPairs tells whether something is so of all pairs of worlds that are above a third one.
func allPairs(above [][]bool, so func(a, b int) bool) bool {
	for w := range above {
		for a := range above {
			for b := range above {
				if above[w][a] && above[w][b] && !so(a, b) {
					return false
				}
			}
		}
	}
	return true
}

// TestFrameKnown: P18.3, formulas that are known to say something of an order, on all orders of up to four worlds and some of five.
func TestFrameKnown(t *testing.T) {
	x := formula.New()
	middle := read(t, x, "p | ~p")
	weak := read(t, x, "~p | ~~p")
	linear := read(t, x, "(p -> q) | (q -> p)")
	two := read(t, x, "q | (q -> p | ~p)")
	three := read(t, x, "r | (r -> q | (q -> p | ~p))")
	frames := slices.Concat(frames(1), frames(2), frames(3), frames(4), frames(5)[1000:])
	for _, m := range frames {
		above := plainAbove(m.Up)
		height, _ := worlds.Height(m)
		chained := allPairs(above, func(a, b int) bool { return above[a][b] || above[b][a] })
		meeting := allPairs(above, func(a, b int) bool {
			for c := range above {
				if above[a][c] && above[b][c] {
					return true
				}
			}
			return false
		})
		for id, want := range map[int]bool{middle: height == 1, weak: meeting, linear: chained, two: height <= 2, three: height <= 3} {
			if is, got, e := force.Frame(x, m, id); is != want || empty(got) != want || e != api.OK {
				t.Errorf("Frame(%s, %s): %v, %s, error %d", show(m), text(x, id), is, show(got), e)
			}
		}
	}
}

// TestFrameRefutes: P18.3, what is told is well-formed, and the formula is not valid in it.
func TestFrameRefutes(t *testing.T) {
	chance := newChance(4)
	many := 0
	for range 1500 {
		rows := someRows(chance, 3+chance.IntN(20), 1+chance.IntN(12), 3)
		x, m, id := made(t, rows...), someModel(chance, 5), len(rows)-1
		is, got, e := force.Frame(x, m, id)
		if e != api.OK {
			t.Fatal(e)
		}
		if is {
			continue
		}
		many++
		if worlds.Check(got) != api.OK {
			t.Fatalf("Frame(%s, %s): %s", show(m), text(x, id), show(got))
		}
		if valid, e := force.Valid(x, got, id); valid || e != api.OK {
			t.Fatalf("Frame(%s, %s): %s, in which it is valid", show(m), text(x, id), show(got))
		}
	}
	if many < 500 {
		t.Errorf("%d times", many)
	}
}
