package search_test

import (
	"slices"
	"strconv"
	"strings"
	"testing"

	"dictum/api"
	"dictum/formula"
	"dictum/search"
)

// roomTexts are sequents whose search makes rows.
func roomTexts() []string {
	return []string{
		"p & q -> r |- r",
		"p | q -> r, q |- r",
		"(p -> q) -> r |- r",
		"(p -> q) -> r |- p | q",
		"~~(p | ~p)",
		"(p -> p) -> q, (p -> q) -> p |- r",
		"(p -> q) -> r, (s -> s) -> r |- r",
		"(p & q) & (q & p) -> r, p, q |- r",
		"((p | q) & (q | r) -> s) -> p |- p",
		"~~(((p -> q) -> p) -> p)",
		"~(p | q) & ~(q | r) -> ~(p & r)",
	}
}

// roomNeeded tells how many rows a search makes.
func roomNeeded(t *testing.T, text string) int {
	t.Helper()
	x := formula.New()
	s := readSeq(t, x, text)
	old := x.Len()
	if _, e := search.Run(x, s, api.MaxVisits); e != api.OK {
		t.Fatalf("%s: error %d", text, e)
	}
	return x.Len() - old
}

// TestRoom: P11.1, tables that are full, or become full on the way: with as much room as there must be the sequent is decided, with less it is ErrForms, and the table is as it was.
func TestRoom(t *testing.T) {
	for _, text := range roomTexts() {
		need := roomNeeded(t, text)
		if need == 0 {
			t.Errorf("%s makes no rows", text)
		}
		for room := range need + 2 {
			x := formula.New()
			s := readSeq(t, x, text)
			small, e := search.Run(x.Copy(), s, api.MaxVisits)
			x = filled(t, x.Rows(), api.MaxForms-room)
			if room < need {
				refuses(t, x, s, api.MaxVisits, api.ErrForms)
				continue
			}
			got, f := search.Run(x, s, api.MaxVisits)
			if got.Proved != small.Proved || e != api.OK || f != api.OK {
				t.Errorf("%s with room for %d: %s, error %d", text, room, show(got), f)
			}
			if want := api.MaxForms - room + need; x.Len() != want {
				t.Errorf("%s with room for %d: %d rows, not %d", text, room, x.Len(), want)
			}
		}
	}
}

// TestRoomThere: P11.1, what is a row already needs no room: the search of a full table that has all rows goes on as before, and makes none.
func TestRoomThere(t *testing.T) {
	for _, text := range roomTexts() {
		x := formula.New()
		s := readSeq(t, x, text)
		want, _ := search.Run(x, s, api.MaxVisits)
		finds(t, x, s, want)
		finds(t, filled(t, x.Rows(), api.MaxForms), s, want)
	}
}

// TestRoomGivenBack: P11.1, a table that was put back takes the rows for which it had room ahead, as if nothing had been.
func TestRoomGivenBack(t *testing.T) {
	x := formula.New()
	s := readSeq(t, x, "p & q -> r |- r")
	x = filled(t, x.Rows(), api.MaxForms-1)
	refuses(t, x, s, api.MaxVisits, api.ErrForms)
	if id := read(t, x, "r -> q"); id != api.MaxForms-1 {
		t.Errorf("r -> q is row %d", id)
	}
	refuses(t, x, s, api.MaxVisits, api.ErrForms)
}

// TestRoomOrBudget: P11.1, of a budget and of room that both do not suffice that is told which comes first: the rows of the premises are made behind entering the sequent that asks for them, and ahead of entering a premise.
func TestRoomOrBudget(t *testing.T) {
	for _, c := range []struct {
		text string
		at   int // the least budget with which a full table is what comes first
	}{
		{"p & q -> r |- r", 1},
		{"(p -> q) -> r |- r", 1},
		{"|- (p | q -> r) -> r", 2},
		{"(p -> q) -> r |- p | q", 2}, // the first premise of the first choice asks for the row
		{"|- (p -> p) & ((p & q -> r) -> r)", 5},
	} {
		x := formula.New()
		s := readSeq(t, x, c.text)
		x = filled(t, x.Rows(), api.MaxForms)
		for budget := 1; budget < c.at; budget++ {
			refuses(t, x, s, budget, api.ErrBudget)
		}
		for _, budget := range []int{c.at, c.at + 1, api.MaxVisits} {
			refuses(t, x, s, budget, api.ErrForms)
		}
	}
}

// TestRoomOfOneChoice: P11.1, a choice behind the one that decides asks for no room.
func TestRoomOfOneChoice(t *testing.T) {
	x := formula.New()
	s := readSeq(t, x, "r, (p -> q) -> s |- r | q")
	x = filled(t, x.Rows(), api.MaxForms)
	finds(t, x, s, found(proved(seq(0, leftOf(s)...), api.RuleId, 0), proved(s, api.RuleOrR1, s.Goal, 0)))
}

// splits is the text of a sequent that enters 4 * 2^many + more - 1 sequents: so many disjunctions are split, each leaf of which needs three sequents, and more implications are ahead.
func splits(many, more int) string {
	var left []string
	goal := "(x -> x) | y"
	for i := range many {
		n := strconv.Itoa(i)
		left = append(left, "q"+n+" | r"+n)
	}
	for i := range more {
		goal = "s" + strconv.Itoa(i) + " -> (" + goal + ")"
	}
	return strings.Join(left, ", ") + " |- " + goal
}

// TestBudgetEnd: P11.1, a search that enters just MaxVisits sequents is answered, and one that would enter one more is ErrBudget.
func TestBudgetEnd(t *testing.T) {
	x := formula.New()
	s := readSeq(t, x, splits(10, 1))
	rows := x.Rows()
	got, e := search.Run(x, s, api.MaxVisits)
	if !got.Proved || got.Visits != api.MaxVisits || len(got.Steps) != api.MaxVisits || e != api.OK {
		t.Errorf("proved %v, %d visits, %d steps, error %d", got.Proved, got.Visits, len(got.Steps), e)
	}
	same(t, x, rows)
	refuses(t, x, s, api.MaxVisits-1, api.ErrBudget)
	x = formula.New()
	refuses(t, x, readSeq(t, x, splits(10, 2)), api.MaxVisits, api.ErrBudget)
	x = formula.New()
	refuses(t, x, readSeq(t, x, splits(14, 0)), api.MaxVisits, api.ErrBudget)
}

// TestBudgets: P11.1, every budget below what a search needs is ErrBudget, and every other one is of no matter.
func TestBudgets(t *testing.T) {
	for _, text := range slices.Concat(roomTexts(), []string{"p", "p |- p", "p | ~p", splits(4, 3)}) {
		x := formula.New()
		s := readSeq(t, x, text)
		want, e := search.Run(x.Copy(), s, api.MaxVisits)
		if e != api.OK {
			t.Errorf("%s: error %d", text, e)
		}
		for budget := 1; budget < want.Visits; budget++ {
			refuses(t, x, s, budget, api.ErrBudget)
		}
		for budget := want.Visits; budget <= want.Visits+3; budget++ {
			if got, e := search.Run(x.Copy(), s, budget); !alike(got, want) || e != api.OK {
				t.Errorf("%s with the budget %d: %s, error %d, not %s", text, budget, show(got), e, show(want))
			}
		}
	}
}

// TestDeep: P11.1, a search that goes down as far as a table lets it ends, proved and refuted.
func TestDeep(t *testing.T) {
	x := formula.New()
	x.Atom("p")
	x.Atom("q")
	last := 0
	for x.Len() < api.MaxForms {
		last, _ = x.Imp(1, last) // q -> (q -> .. p)
	}
	if got, e := search.Run(x, seq(last), api.MaxVisits); got.Proved || got.Visits != api.MaxForms-1 || e != api.OK {
		t.Errorf("%d visits, error %d", got.Visits, e)
	}
	if got, e := search.Run(x, seq(last, 0), api.MaxVisits); !got.Proved || got.Visits != api.MaxForms-1 || e != api.OK {
		t.Errorf("%d visits, error %d", got.Visits, e)
	}
	if got, e := search.Run(x, seq(0, last, 1), api.MaxVisits); !got.Proved || got.Visits != api.MaxForms-1 || e != api.OK {
		t.Errorf("%d visits, error %d", got.Visits, e)
	}
}

// TestFullLeft: P11.1, a full table with nearly all of it on the left side.
func TestFullLeft(t *testing.T) {
	x := formula.New()
	s := readSeq(t, x, splits(8, 1))
	few := x.Len()
	want, _ := search.Run(x, s, api.MaxVisits)
	x = filled(t, x.Rows(), api.MaxForms)
	more := seq(s.Goal, leftOf(s)...)
	for id := few; id < api.MaxForms; id++ {
		more.Left[id/64] |= 1 << (id % 64)
	}
	got, e := search.Run(x, more, want.Visits)
	if !got.Proved || got.Visits != 1024 || got.Visits != want.Visits || e != api.OK {
		t.Fatalf("proved %v, %d visits, error %d", got.Proved, got.Visits, e)
	}
	for i, step := range got.Steps {
		if few := want.Steps[i]; step.Rule != few.Rule || step.Main != few.Main || !slices.Equal(step.Kids, few.Kids) || len(leftOf(step.Seq)) != len(leftOf(few.Seq))+len(leftOf(more))-len(leftOf(s)) {
			t.Fatalf("step %d: rule %d of %d, kids %v, not rule %d of %d, kids %v", i, step.Rule, step.Main, step.Kids, few.Rule, few.Main, few.Kids)
		}
	}
}
