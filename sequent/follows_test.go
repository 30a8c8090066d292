package sequent_test

import (
	"slices"
	"testing"

	"dictum/api"
	"dictum/formula"
	"dictum/sequent"
	"dictum/syntax"
)

// goesBack asks that Parse of what Print writes is the same sequent, and puts nothing into the table.
func goesBack(t *testing.T, x *formula.Table, s api.Seq) {
	t.Helper()
	text, e := sequent.Print(x, s)
	if e == api.ErrLong || e == api.OK && syntax.Count(text) > api.MaxFormula {
		return
	}
	if want := plainPrint(x, s); e != api.OK || text != want {
		t.Fatalf("Print: %q, error %d, not %q", text, e, want)
	}
	rows := x.Rows()
	again, f := sequent.Parse(x, text)
	if again != s || f != (api.Fault{}) || !slices.Equal(x.Rows(), rows) {
		t.Fatalf("%q: %v |- %d, fault %v, not %v |- %d", text, leftOf(again), again.Goal, f, leftOf(s), s.Goal)
	}
}

// TestFollowsTexts: P8.7, sequents by chance there and back, also in full tables.
func TestFollowsTexts(t *testing.T) {
	chance := newChance(3)
	for i := range 4000 {
		rows := someRows(chance, 2+chance.IntN(30), 1+chance.IntN(12), 4)
		x := made(t, rows...)
		if i%40 == 0 {
			x = filled(t, rows, api.MaxForms)
		}
		goesBack(t, x, someSeq(chance, len(rows), 8))
		goesBack(t, x, someSeq(chance, x.Len(), 8))
	}
}

// TestFollowsTextsMany: P8.7, as many formulas as a text may have.
func TestFollowsTextsMany(t *testing.T) {
	x := filled(t, nil, api.MaxForms)
	var left []int
	for id := 1; len(left) < api.MaxFormula-1; id += 2 {
		left = append(left, id)
	}
	s := seq(1023, left...)
	goesBack(t, x, s)
	text, _ := sequent.Print(x, s)
	if syntax.Count(text) != api.MaxFormula {
		t.Error(syntax.Count(text))
	}
	text, e := sequent.Print(x, seq(1023, append(left, 0)...))
	if e != api.OK {
		t.Error(e)
	}
	refuses(t, x, text, api.ErrTooBig, len(text)-len("fill1023"))
}

// TestFollowsTruth: P8.7, a row of a truth table makes Whole true just if it makes Curry true, and just if it does not make all of the left side true and the goal false.
func TestFollowsTruth(t *testing.T) {
	chance := newChance(4)
	for range 3000 {
		x := made(t, someRows(chance, 2+chance.IntN(30), 1+chance.IntN(12), 4)...)
		s := someSeq(chance, x.Len(), 6)
		whole, e := sequent.Whole(x, s)
		curry, h := sequent.Curry(x, s)
		if e != api.OK || h != api.OK {
			t.Fatal(e, h)
		}
		for _, names := range []string{"", "a", "b", "ab", "c", "ac", "bc", "abc", "d", "ad", "bd", "abd", "cd", "acd", "bcd", "abcd"} {
			is := truths(x.Rows(), names)
			want := is[s.Goal]
			for _, id := range leftOf(s) {
				want = want || !is[id]
			}
			if is[whole] != want || is[curry] != want {
				t.Fatalf("%s where %q is true: Whole %v, Curry %v, not %v", plainPrint(x, s), names, is[whole], is[curry], want)
			}
		}
	}
}

// TestFollowsOf: Of of a left side and a goal is the sequent.
func TestFollowsOf(t *testing.T) {
	chance := newChance(5)
	x := filled(t, nil, api.MaxForms)
	for range 1000 {
		s := someSeq(chance, api.MaxForms, 40)
		left := leftOf(s)
		chance.Shuffle(len(left), func(i, j int) { left[i], left[j] = left[j], left[i] })
		if got, e := sequent.Of(x, append(left, left...), s.Goal); got != s || e != api.OK {
			t.Fatalf("%v |- %d, error %d, not %v |- %d", leftOf(got), got.Goal, e, leftOf(s), s.Goal)
		}
	}
}
