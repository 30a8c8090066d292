package translate_test

import (
	"math"
	"slices"
	"strconv"
	"testing"

	"dictum/api"
	"dictum/formula"
	"dictum/translate"
)

// TestName: P15.1, h and the number, of any number, as layer 1's Dec writes it.
func TestName(t *testing.T) {
	for id, want := range map[int]string{
		0: "h0", 1: "h1", 9: "h9", 10: "h10", 63: "h63", 64: "h64", 1023: "h1023", 1024: "h1024", 999999999: "h999999999",
		-1: "h-1", -7: "h-7", -1024: "h-1024",
		math.MaxInt: "h9223372036854775807", math.MinInt: "h-9223372036854775808",
	} {
		if got := translate.Name(id); got != want {
			t.Errorf("Name(%d): %q, not %q", id, got, want)
		}
	}
	seen := map[string]int{}
	for id := range api.MaxForms {
		name := translate.Name(id)
		if other, twice := seen[name]; twice || !formula.Word(name) {
			t.Errorf("Name(%d): %q, as of %d", id, name, other)
		}
		seen[name] = id
	}
}

// hypsOf are the hypotheses of these numbers, by the chapter's words.
func hypsOf(ids []int) []api.Hyp {
	var l []api.Hyp
	for _, id := range ids {
		l = append(l, api.Hyp{Name: "h" + strconv.Itoa(id), Form: id})
	}
	return l
}

// TestHyps: P15.1, of each number on the left side, rising, its name and it; the goal is not asked for, and neither is a table.
func TestHyps(t *testing.T) {
	all := make([]int, api.MaxForms)
	for id := range all {
		all[id] = id
	}
	for _, left := range [][]int{nil, {0}, {1}, {2}, {0, 2}, {5, 3, 1}, {63, 64}, {64}, {127, 128, 0}, {1023}, {1022, 1023, 0, 511}, all} {
		for _, goal := range []int{0, 1, 2, 7, 1023, -1, 1024, math.MaxInt, math.MinInt} {
			s := seq(goal, left...)
			was := s
			want := slices.Sorted(slices.Values(left))
			if got := translate.Hyps(s); !slices.Equal(got, hypsOf(want)) || s != was {
				t.Errorf("Hyps(%v |- %d): %v", left, goal, got)
			}
		}
	}
	chance := newChance(1)
	for range 300 {
		s := someSeq(chance, 1+chance.IntN(api.MaxForms), chance.IntN(200))
		if got := translate.Hyps(s); !slices.Equal(got, hypsOf(leftOf(s))) {
			t.Errorf("Hyps(%v): %v", leftOf(s), got)
		}
	}
}

// TestHypsOwn: R3, what was answered is the caller's own, also behind its end.
func TestHypsOwn(t *testing.T) {
	s := seq(0, 3, 1, 700)
	l := translate.Hyps(s)
	l = l[:cap(l)]
	for i := range l {
		l[i] = api.Hyp{Name: "x", Form: -1}
	}
	if got := translate.Hyps(s); !slices.Equal(got, hypsOf([]int{1, 3, 700})) {
		t.Error(got)
	}
}
