package sequent_test

import (
	"cmp"
	"math"
	"slices"
	"testing"

	"dictum/api"
	"dictum/bits"
	"dictum/sequent"
)

// compares asks for an order, and for the other one the other way round.
func compares(t *testing.T, a, b api.Seq, want int) {
	t.Helper()
	if got, back := sequent.Compare(a, b), sequent.Compare(b, a); got != want || back != -want {
		t.Errorf("%v |- %d and %v |- %d: %d, back %d, not %d", leftOf(a), a.Goal, leftOf(b), b.Goal, got, back, want)
	}
}

// TestCompare: P8.6, the left sides first, then the goals, whatever numbers these are.
func TestCompare(t *testing.T) {
	compares(t, api.Seq{}, api.Seq{}, 0)
	compares(t, seq(5, 1, 900), seq(5, 1, 900), 0)
	compares(t, seq(1), seq(2), -1)
	compares(t, seq(1, 7), seq(9, 7), -1)
	compares(t, seq(9, 1), seq(2, 2), -1)
	compares(t, seq(9, 0), seq(2), -1)
	compares(t, seq(9, 3, 5), seq(2, 3), -1)
	compares(t, seq(9, 3, 5), seq(2, 3, 6), -1)
	compares(t, seq(9, 3, 1022), seq(2, 3, 1023), -1)
	compares(t, seq(9, 3, 1023), seq(2, 3), -1)
	compares(t, seq(9, 63), seq(2, 64, 65, 66), -1)
	compares(t, seq(-1), seq(0), -1)
	compares(t, seq(math.MinInt), seq(math.MaxInt), -1)
	compares(t, seq(math.MinInt), seq(1), -1)
	compares(t, seq(-2), seq(math.MaxInt), -1)
	compares(t, seq(math.MaxInt), seq(math.MaxInt), 0)
}

// TestWeaker: P8.6, the same goal, and all that stands on b's left side on a's.
func TestWeaker(t *testing.T) {
	for _, c := range []struct {
		a, b api.Seq
		want bool
	}{
		{api.Seq{}, api.Seq{}, true},
		{seq(1, 2), seq(1, 2), true},
		{seq(1, 2), seq(1), true},
		{seq(1), seq(1, 2), false},
		{seq(1, 2, 3, 1023), seq(1, 2, 1023), true},
		{seq(1, 2, 3), seq(1, 2, 1023), false},
		{seq(1, 2, 3), seq(2, 2), false},
		{seq(1), seq(2), false},
		{seq(1, 2), seq(1, 3), false},
		{seq(-1, 2), seq(-1), true},
		{seq(-1, 2), seq(1), false},
		{seq(math.MaxInt, 64), seq(math.MaxInt, 64), true},
		{seq(math.MinInt, 0), seq(math.MaxInt, 0), false},
		{seq(0, 64), seq(0, 0), false},
		{seq(0, 0, 64, 128), seq(0, 128), true},
	} {
		if got := sequent.Weaker(c.a, c.b); got != c.want {
			t.Errorf("%v |- %d of %v |- %d: %v", leftOf(c.a), c.a.Goal, leftOf(c.b), c.b.Goal, got)
		}
	}
}

// someSeqs are all sequents of three formulas with goals of all sorts, and some with formulas in other words of the row of bits.
func someSeqs() []api.Seq {
	var l []api.Seq
	for _, goal := range []int{math.MinInt, -1, 0, 2, math.MaxInt} {
		for left := range uint64(8) {
			l = append(l, api.Seq{Left: api.Bits{left}, Goal: goal}, api.Seq{Left: api.Bits{left & 1, left >> 1 << 63, 15: left << 61}, Goal: goal})
		}
	}
	slices.SortFunc(l, sequent.Compare)
	return slices.Compact(l)
}

// TestFollowsCompare: P8.7, Compare is an order of all sequents, and says what the left sides and then the goals say.
func TestFollowsCompare(t *testing.T) {
	l := someSeqs()
	for i, a := range l {
		for j, b := range l {
			compares(t, a, b, cmp.Compare(i, j))
			want := bits.Compare(a.Left, b.Left)
			if want == 0 {
				want = cmp.Compare(a.Goal, b.Goal)
			}
			compares(t, a, b, want)
		}
	}
}

// TestFollowsWeaker: P8.7, each sequent is below itself, two are below each other only if they are the same, and what is below what is below a third is below that.
func TestFollowsWeaker(t *testing.T) {
	l := someSeqs()
	for _, a := range l {
		for _, b := range l {
			there, back := sequent.Weaker(a, b), sequent.Weaker(b, a)
			if (there && back) != (a == b) {
				t.Errorf("%v and %v: %v, %v", a, b, there, back)
			}
			want := a.Goal == b.Goal
			for _, id := range leftOf(b) {
				want = want && slices.Contains(leftOf(a), id)
			}
			if there != want {
				t.Errorf("%v of %v: %v", a, b, there)
			}
			for _, c := range l {
				if there && sequent.Weaker(b, c) && !sequent.Weaker(a, c) {
					t.Errorf("%v, %v, %v", a, b, c)
				}
			}
		}
	}
}
