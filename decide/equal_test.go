package decide_test

import (
	"testing"

	"dictum/api"
	"dictum/decide"
)

// TestEqualKnown: P21.4, formulas that are known to be equal, and those of which one proves the other, or neither does.
func TestEqualKnown(t *testing.T) {
	for _, c := range []struct {
		a, b string
		want bool
	}{
		{"p", "p", true},
		{"p & q", "q & p", true},
		{"p | p", "p", true},
		{"p | q", "q | p", true},
		{"p -> q -> r", "p & q -> r", true},
		{"~(p | q)", "~p & ~q", true},
		{"~~~p", "~p", true},
		{"true", "p -> p", true},
		{"false", "p & ~p", true},
		{"p & (p | q)", "p", true},
		{"true -> p", "p", true},
		{"~~p", "p", false},
		{"p", "q", false},
		{"p & q", "p", false},
		{"p | q", "p", false},
		{"true", "false", false},
		{"~(p & q)", "~p | ~q", false},
		{"p -> q", "~p | q", false},
		{"p -> q", "q -> p", false},
		{"p | ~p", "true", false},
		{"~~(p | ~p)", "true", true},
	} {
		x, ids := readAll(t, c.a, c.b)
		for _, l := range [][]int{{0, 1}, {1, 0}} {
			if is, e := heldEqual(t, x, ids[l[0]], ids[l[1]]); is != c.want || e != api.OK {
				t.Error(c, is, e)
			}
		}
	}
}

// TestEqualChance: P21.4, formulas by chance, of which each two are asked.
func TestEqualChance(t *testing.T) {
	chance := newChance(4)
	equal := 0
	for range 80 {
		x := made(t, someRows(chance, 2+chance.IntN(10), 1+chance.IntN(10), 2)...)
		for a := range x.Len() {
			for b := range x.Len() {
				if is, _ := heldEqual(t, x, a, b); is && a != b {
					equal++
				}
			}
		}
	}
	if equal < 100 {
		t.Error(equal)
	}
}

// TestEqualFirstError: P21.4, the first question's error is told, though the second has another one; and the second's, though the first one is refuted.
func TestEqualFirstError(t *testing.T) {
	x, ids := readAll(t, hard(), "q", "p")
	big := sized(t, x, 65537)
	q, p := ids[1], ids[2]
	for _, c := range []struct {
		a, b       int
		there      api.Errno
		back, want api.Errno
	}{
		{ids[0], q, api.OK, api.ErrBudget, api.ErrBudget},
		{q, ids[0], api.ErrBudget, api.OK, api.ErrBudget},
		{big, q, api.OK, api.ErrBig, api.ErrBig},
		{q, big, api.ErrBig, api.OK, api.ErrBig},
		{ids[0], big, api.ErrBig, api.ErrBudget, api.ErrBig},
		{big, ids[0], api.ErrBudget, api.ErrBig, api.ErrBudget},
		{p, q, api.OK, api.OK, api.OK},
	} {
		there, e := decide.Entails(x, to(c.a), c.b)
		back, f := decide.Entails(x, to(c.b), c.a)
		if e != c.there || f != c.back || there.Proved || back.Proved {
			t.Errorf("%d, %d: errors %d, %d, not %d, %d; %s; %s", c.a, c.b, e, f, c.there, c.back, show(there), show(back))
		}
		refusesEqual(t, x, c.a, c.b, c.want)
	}
}

// TestEqualRoom: P21.4, each question has the room that the table has: what the first one puts is not in the second one's way.
func TestEqualRoom(t *testing.T) {
	x, ids := readAll(t, "p", "q", "p & p")
	for room := range 4 {
		full := filled(t, x.Rows(), api.MaxForms-room)
		if room == 0 {
			refusesEqual(t, full, ids[0], ids[1], api.ErrBudget)
			refusesEqual(t, full, ids[0], ids[2], api.ErrBudget)
			refusesEqual(t, full, ids[0], ids[0], api.ErrBudget)
			continue
		}
		if is, e := heldEqual(t, full, ids[0], ids[1]); is || e != api.OK {
			t.Error(room, is, e)
		}
		if is, e := heldEqual(t, full, ids[0], ids[2]); !is || e != api.OK {
			t.Error(room, is, e)
		}
	}
	x, ids = readAll(t, "p", "q", "p -> q")
	full := filled(t, x.Rows(), api.MaxForms) // p -> q is there, q -> p is not
	refusesEqual(t, full, ids[0], ids[1], api.ErrBudget)
	refusesEqual(t, full, ids[1], ids[0], api.ErrBudget)
	x, ids = readAll(t, "p", "q", "p -> q", "q -> p")
	if is, e := heldEqual(t, filled(t, x.Rows(), api.MaxForms), ids[0], ids[1]); is || e != api.OK {
		t.Error(is, e)
	}
}
