package classical_test

import (
	"iter"
	"slices"
	"testing"

	"dictum/api"
	"dictum/classical"
	"dictum/formula"
)

// modelsOf is what goes through the rows that make a formula true.
func modelsOf(t *testing.T, x *formula.Table, id int) iter.Seq[int] {
	t.Helper()
	seq, e := classical.Models(x, id)
	if seq == nil || e != api.OK {
		t.Fatalf("Models(%d): error %d", id, e)
	}
	return seq
}

// TestModelsKnown: P22.1, rows written out.
func TestModelsKnown(t *testing.T) {
	for text, want := range map[string][]int{
		"p": to(1), "~p": to(0), "true": to(0), "false": nil, "p & ~p": nil, "p | ~p": to(0, 1), "p -> q": to(0, 2, 3), "p & q": to(3),
		"p & q & r": to(7), "(p <-> q) & (q <-> r)": to(0, 7), "p | q | r": to(1, 2, 3, 4, 5, 6, 7), "~p & r & (q -> q)": to(4, 6),
	} {
		x := formula.New()
		id := read(t, x, text)
		heldTable(t, x, id)
		if l := collected(t, modelsOf(t, x, id)); !slices.Equal(l, want) {
			t.Errorf("%s: %v, not %v", text, l, want)
		}
	}
}

// TestModelsLeft: P22.1, the ranging is left at each row, by break and by a function that answers false; nothing more is told then, and it may be gone through again.
func TestModelsLeft(t *testing.T) {
	x, ids := readAll(t, "p | q | r", "p", "p & ~p")
	seq := modelsOf(t, x, ids[0])
	all := to(1, 2, 3, 4, 5, 6, 7)
	for last := range all {
		var l []int
		for n := range seq {
			l = append(l, n)
			if len(l) == last+1 {
				break
			}
		}
		if !slices.Equal(l, all[:last+1]) {
			t.Errorf("left behind %d rows: %v", last+1, l)
		}
		asked := 0
		seq(func(n int) bool {
			asked++
			return asked <= last
		})
		if asked != last+1 {
			t.Errorf("%d rows are told behind a false, not %d", asked, last+1)
		}
		if l := collected(t, seq); !slices.Equal(l, all) {
			t.Errorf("again: %v", l)
		}
	}
	for _, id := range ids[1:] {
		for n := range modelsOf(t, x, id) {
			if n != 1 || id != ids[1] {
				t.Errorf("%d: %d", id, n)
			}
		}
	}
}

// TestModelsWithin: P22.1, rangings within one another, of one iterator and of two, know nothing of one another.
func TestModelsWithin(t *testing.T) {
	x, ids := readAll(t, "p -> q", "p | q")
	one, two := modelsOf(t, x, ids[0]), modelsOf(t, x, ids[1])
	for _, inner := range []iter.Seq[int]{one, two} {
		var l []int
		for a := range one {
			for b := range inner {
				if b == 3 {
					break
				}
				l = append(l, 10*a+b)
			}
		}
		want := to(0, 2, 20, 22, 30, 32)
		if l[0] == 1 {
			want = to(1, 2, 21, 22, 31, 32)
		}
		if !slices.Equal(l, want) {
			t.Error(l)
		}
	}
	next, stop := iter.Pull(one)
	defer stop()
	other, end := iter.Pull(one)
	defer end()
	for _, want := range to(0, 2, 3) {
		a, _ := next()
		b, _ := other()
		if a != want || b != want {
			t.Error(a, b, want)
		}
	}
	if _, more := next(); more {
		t.Error("there are more rows")
	}
}

// TestModelsKeepNothing: R3 and R4, what becomes of the table behind the call is not seen in the ranging, nor in one that has begun.
func TestModelsKeepNothing(t *testing.T) {
	x, ids := readAll(t, "p -> q")
	seq := modelsOf(t, x, ids[0])
	var l []int
	for n := range seq {
		l = append(l, n)
		x.Cut(0)
		x.Bot()
		x.Not(0)
		x.Atom("q")
	}
	if !slices.Equal(l, to(0, 2, 3)) || !slices.Equal(collected(t, seq), l) {
		t.Error(l, collected(t, seq))
	}
}

// TestModelsSideBySide: R4, one iterator is gone through by several at one time.
func TestModelsSideBySide(t *testing.T) {
	x, ids := readAll(t, excluded(10)+" & p3")
	seq := modelsOf(t, x, ids[0])
	sums := make(chan int)
	for range 8 {
		go func() {
			sum := 0
			for n := range seq {
				sum += n
			}
			sums <- sum
		}()
	}
	want := 0
	for n := range 1 << 10 {
		if n&8 != 0 {
			want += n
		}
	}
	for range 8 {
		if sum := <-sums; sum != want {
			t.Error(sum, want)
		}
	}
}
