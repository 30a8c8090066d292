package classical_test

import (
	"slices"
	"testing"

	"dictum/api"
	"dictum/classical"
	"dictum/formula"
)

// scribble leaves some in all of a list, the room behind its end included.
func scribble[T any](l []T, some T) {
	l = l[:cap(l)]
	for i := range l {
		l[i] = some
	}
}

// scribbled leaves nonsense in all lists of an answer.
func scribbled(c api.Classic) {
	var walk func(x api.Term)
	walk = func(x api.Term) {
		for _, part := range x.Sub {
			walk(part)
		}
		scribble(x.Sub, api.Term{Form: -7})
	}
	walk(c.Term)
	scribble(c.Rows, api.Node{L: -7})
	scribble(c.Atoms, "nonsense")
	scribble(c.Row, true)
}

// TestOwnAnswers: R3, what is told is the caller's own: nonsense in it is seen neither in the table nor in what is told later, or was told ahead.
func TestOwnAnswers(t *testing.T) {
	for _, text := range slices.Concat(alwaysTexts(), sometimesTexts()) {
		x := formula.New()
		id := read(t, x, text)
		seq, _ := classical.Models(x, id)
		models := collected(t, seq)
		c, _ := classical.Decide(x, id)
		before := clone(c)
		untouched(t, x, func() {
			names, values, _ := classical.Table(x, id)
			scribble(names, "nonsense")
			scribble(values, true)
			names, values, _ = classical.Table(x, id)
			scribble(values, false)
			scribble(names, "")
			other, _ := classical.Decide(x, id)
			scribbled(other)
		})
		if !alike(c, before) {
			t.Errorf("%s: %s became %s", text, show(before), show(c))
		}
		if l := collected(t, seq); !slices.Equal(l, models) {
			t.Errorf("%s: %v became %v", text, models, l)
		}
		heldTable(t, x, id)
		if c, _ := heldDecide(t, x, id); !alike(c, before) {
			t.Errorf("%s: %s, not %s", text, show(c), show(before))
		}
	}
}

// TestOwnTable: R3, an answer keeps nothing of the table: what its owner does to it later is not seen.
func TestOwnTable(t *testing.T) {
	x, ids := readAll(t, "p | ~p | q", "p -> q")
	names, values, _ := classical.Table(x, ids[1])
	c, _ := classical.Decide(x, ids[0])
	d, _ := classical.Decide(x, ids[1])
	wasC, wasD := clone(c), clone(d)
	x.Cut(1)
	read(t, x, "(z | p) & z")
	if !alike(c, wasC) || !alike(d, wasD) {
		t.Error(show(c), show(d))
	}
	if !slices.Equal(names, []string{"p", "q"}) || digits(values) != "1011" {
		t.Error(names, values)
	}
}

// TestOwnCopies: P22.2, each Decide has a copy of its own: what one has put there is not in the next one's, nor in the table, nor in a copy of it.
func TestOwnCopies(t *testing.T) {
	x, ids := readAll(t, "p | ~p", "q -> q")
	rows, other := x.Len(), x.Copy()
	for range 3 {
		for _, id := range ids {
			if c, e := heldDecide(t, x, id); !slices.Equal(c.Rows[:rows], other.Rows()) || c.Rows[rows].L != id || e != api.OK {
				t.Errorf("%s, rows %v, error %d", show(c), c.Rows, e)
			}
		}
	}
	for _, k := range makings() {
		copied := x.Copy()
		heldMade(t, k, copied, ids[0])
		if x.Len() != rows || other.Len() != rows || copied.Len() == rows {
			t.Error(k.name, x.Len(), other.Len(), copied.Len())
		}
	}
}

// TestOwnSideBySide: R4, calls that run side by side on one table read it alone, and answer as one behind the other.
func TestOwnSideBySide(t *testing.T) {
	texts := slices.Concat(alwaysTexts(), sometimesTexts())
	x, ids := readAll(t, texts...)
	want := make([]api.Classic, len(ids))
	for i, id := range ids {
		want[i], _ = classical.Decide(x, id)
	}
	got := make([]api.Classic, len(ids))
	done := make(chan int)
	for i, id := range ids {
		go func() {
			classical.Table(x, id)
			classical.Equal(x, id, ids[0])
			classical.Double(x.Copy(), id)
			got[i], _ = classical.Decide(x, id)
			done <- i
		}()
	}
	for range ids {
		<-done
	}
	for i := range ids {
		if !alike(got[i], want[i]) {
			t.Errorf("%s: %s, not %s", texts[i], show(got[i]), show(want[i]))
		}
	}
}
