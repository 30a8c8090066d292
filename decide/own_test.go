package decide_test

import (
	"slices"
	"testing"

	"dictum/api"
	"dictum/decide"
	"dictum/formula"
)

// subs are all lists of parts in a term, one for each node that has any.
func subs(x api.Term) [][]api.Term {
	var out [][]api.Term
	if cap(x.Sub) > 0 {
		out = append(out, x.Sub)
	}
	for _, part := range x.Sub {
		out = append(out, subs(part)...)
	}
	return out
}

// nonsense leaves some in all of a list, the room behind its end included, unless it is there already, by which lists that share memory are told.
func nonsense[T any](t *testing.T, l []T, is func(T) bool, some T) {
	t.Helper()
	l = l[:cap(l)]
	for i := range l {
		if is(l[i]) {
			t.Fatal("two lists of an answer share memory")
		}
		l[i] = some
	}
}

// scribbled asks that no two lists of an answer share memory, and leaves nonsense in all of them.
func scribbled(t *testing.T, a api.Answer) {
	t.Helper()
	lists := subs(a.Term) // gathered ahead, since nonsense has no parts
	nonsense(t, a.Rows, func(n api.Node) bool { return n.L == -7 }, api.Node{L: -7})
	for _, l := range lists {
		nonsense(t, l, func(x api.Term) bool { return x.Form == -7 }, api.Term{Form: -7})
	}
	for _, row := range a.Model.Up {
		nonsense(t, row, func(n int) bool { return n == -7 }, -7)
	}
	for _, row := range a.Model.Val {
		nonsense(t, row, func(s string) bool { return s == "nonsense" }, "nonsense")
	}
	clear(a.Model.Up[:cap(a.Model.Up)])
	clear(a.Model.Val[:cap(a.Model.Val)])
}

// TestOwnAnswers: R3, what is answered is the caller's own: no two of its lists share memory, and none does with the table or with another answer.
func TestOwnAnswers(t *testing.T) {
	for _, text := range slices.Concat(provedTexts(), refutedTexts(), []string{"(p -> p) & (p -> p)", "p | p", "(p | p) -> (q | q) -> x | (y -> y)"}) {
		x := formula.New()
		id := read(t, x, text)
		other, _ := decide.Form(x, id)
		before := clone(other)
		untouched(t, x, nil, other, func() {
			a, _ := decide.Form(x, id)
			scribbled(t, a)
			a, _ = decide.Entails(x, to(id), 0)
			scribbled(t, a)
			a, _ = decide.Text(text)
			scribbled(t, a)
		})
		if a, _ := heldForm(t, x, id); !alike(a, before) {
			t.Errorf("%s: %s, not %s", text, show(a), show(before))
		}
		if a, _ := heldText(t, text); !alike(a, before) {
			t.Errorf("%s: %s, not %s", text, show(a), show(before))
		}
	}
}

// TestOwnTable: R3, an answer keeps nothing of the table: what its owner does to it later is not seen.
func TestOwnTable(t *testing.T) {
	x, ids := readAll(t, "(p & q -> r) -> r", "p -> p")
	a, _ := decide.Form(x, ids[0])
	b, _ := decide.Entails(x, to(ids[0], ids[0]), ids[1])
	wasA, wasB := clone(a), clone(b)
	x.Cut(1)
	read(t, x, "(z | p) & z")
	if !alike(a, wasA) || !alike(b, wasB) {
		t.Error(show(a), show(b))
	}
	rightAnswer(t, a)
	rightAnswer(t, b)
}

// TestOwnCopies: P21.1 and P21.3, each call has a copy of its own: rows that one has made are not in the next one's.
func TestOwnCopies(t *testing.T) {
	x, ids := readAll(t, "(p & q -> r) -> r", "p", "r")
	rows := x.Len()
	for range 3 {
		if a, e := heldForm(t, x, ids[0]); len(a.Rows) != rows+2 || e != api.OK {
			t.Error(show(a), e)
		}
		if a, e := heldForm(t, x, ids[1]); len(a.Rows) != rows || e != api.OK {
			t.Error(show(a), e)
		}
		if a, e := heldEntails(t, x, to(ids[1]), ids[2]); len(a.Rows) != rows+1 || a.Form != rows || e != api.OK {
			t.Error(show(a), e)
		}
		if a, e := heldEntails(t, x, to(ids[2]), ids[1]); len(a.Rows) != rows+1 || a.Form != rows || e != api.OK {
			t.Error(show(a), e)
		}
		heldEqual(t, x, ids[1], ids[2])
	}
}

// TestOwnSideBySide: R4, calls that run side by side on one table read it alone, and answer as one behind the other.
func TestOwnSideBySide(t *testing.T) {
	texts := slices.Concat(provedTexts(), refutedTexts())
	x, ids := readAll(t, texts...)
	want := make([]api.Answer, len(ids))
	for i, id := range ids {
		want[i], _ = decide.Form(x, id)
	}
	got := make([]api.Answer, len(ids))
	done := make(chan int)
	for i, id := range ids {
		go func() {
			got[i], _ = decide.Form(x, id)
			decide.Equal(x, id, ids[0])
			decide.Holds(want[i])
			done <- i
		}()
	}
	for range ids {
		<-done
	}
	for i := range ids {
		if !alike(got[i], want[i]) {
			t.Errorf("%s: %s, not %s", texts[i], show(got[i]), show(want[i]))
		}
	}
}
