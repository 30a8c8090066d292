package translate_test

import (
	"slices"
	"strconv"
	"strings"
	"testing"

	"dictum/api"
	"dictum/formula"
	"dictum/reduce"
	"dictum/search"
	"dictum/sequent"
	"dictum/term"
	"dictum/translate"
	"dictum/types"
)

// taken is P15.4, of each step that is proved and whose term is not too big: layer 13 takes it at the goal under the left side's hypotheses, and its free names are among those. It answers how many these were.
func taken(t *testing.T, f *formula.Table, steps []api.Step) int {
	t.Helper()
	many := 0
	for at, step := range steps {
		if !step.Proved {
			continue
		}
		x, e := translate.Term(f, steps, at)
		if e == api.ErrBig {
			continue
		}
		hyps := translate.Hyps(step.Seq)
		if e != api.OK || term.Check(x) != api.OK {
			t.Fatalf("step %d of %s: error %d, %d of %s", at, showSteps(steps), e, term.Check(x), show(x))
		}
		if way, e := types.Where(f, hyps, x, step.Seq.Goal); e != api.OK {
			t.Fatalf("step %d of %s: error %d of %s at %v; rows %v", at, showSteps(steps), e, show(x), way, f.Rows())
		}
		free, _ := term.Free(x)
		for _, name := range free {
			if !slices.ContainsFunc(hyps, func(h api.Hyp) bool { return h.Name == name }) {
				t.Fatalf("step %d of %s: %s is free in %s", at, showSteps(steps), name, show(x))
			}
		}
		many++
	}
	return many
}

// TestFollowsTaken: P15.4, of steps by chance, those of a search and others that are right.
func TestFollowsTaken(t *testing.T) {
	chance := newChance(3)
	many := 0
	for range 8000 {
		f, steps := someSteps(t, chance)
		if len(steps) > 0 {
			many += taken(t, f, steps)
		}
	}
	if many < 10000 {
		t.Errorf("%d terms", many)
	}
}

// TestFollowsSmall: P15.4, of all sequents of some small formulas, with at most two on the left side.
func TestFollowsSmall(t *testing.T) {
	rows := rowsOf(t, "q", "false", "p", "q & p", "q | p", "q -> p", "~q", "p & p", "p | p", "p -> p", "false -> false", "q & p -> q", "q | p -> p", "(q -> p) -> q", "~~q", "p & p -> q", "p | p -> q", "(p -> p) -> q", "((q -> p) -> q) -> q", "q | ~q", "(q | ~q) -> p").Rows()
	for goal := range rows {
		for one := range rows {
			for two := range one + 1 {
				f := made(t, rows...)
				found, e := search.Run(f, seq(goal, one, two), api.MaxVisits)
				if e != api.OK {
					t.Fatal(e)
				}
				taken(t, f, found.Steps)
			}
		}
	}
}

// knownTexts are sequents that intuitionistic logic has.
func knownTexts() []string {
	return []string{
		"p -> (q -> p)",
		"(p -> (q -> r)) -> ((p -> q) -> (p -> r))",
		"p & (q | r) <-> p & q | p & r",
		"p | q & r <-> (p | q) & (p | r)",
		"~~(p | ~p)",
		"~~(((p -> q) -> p) -> p)",
		"~~~p -> ~p",
		"~(p | q) <-> ~p & ~q",
		"~p | ~q -> ~(p & q)",
		"~~(p & q) <-> ~~p & ~~q",
		"~~(p -> q) <-> (~~p -> ~~q)",
		"((((p -> q) -> p) -> p) -> q) -> q",
		"p | q, ~p |- q",
		"(p <-> q) -> p & q & r, (q <-> r) -> p & q & r, (r <-> p) -> p & q & r |- p & q & r",
		"a | b, c | d, e | f |- a & c | a & e | c & e | b & d | b & f | d & f",
		"true",
		"false -> p",
	}
}

// TestFollowsKnown: P15.4 and W3, of what is known, with all the steps on the way; a formula's own term has no free name, and reduced it is still taken (W6).
func TestFollowsKnown(t *testing.T) {
	for _, text := range knownTexts() {
		f := formula.New()
		s := readSeq(t, f, text)
		found, e := search.Run(f, s, api.MaxVisits)
		if !found.Proved || e != api.OK {
			t.Fatalf("%s: proved %v, error %d", text, found.Proved, e)
		}
		taken(t, f, found.Steps)
		x, e := translate.Term(f, found.Steps, len(found.Steps)-1)
		if e != api.OK {
			t.Errorf("%s: error %d", text, e)
			continue
		}
		y, _, normal, e := reduce.Run(f, x, api.MaxFuel)
		if e != api.OK || !normal || types.Check(f, translate.Hyps(s), y, s.Goal) != api.OK {
			t.Errorf("%s: %s, normal %v, error %d", text, show(y), normal, e)
		}
	}
}

// TestFollowsMany: P15.4, of a search with thousands of steps: each one's nodes and levels, and the terms of some.
func TestFollowsMany(t *testing.T) {
	var left []string
	for i := range 10 {
		left = append(left, "q"+strconv.Itoa(i)+" | r"+strconv.Itoa(i))
	}
	f := formula.New()
	s, _ := sequent.Parse(f, strings.Join(left, ", ")+" |- s -> (x -> x) | y")
	found, e := search.Run(f, s, api.MaxVisits)
	if e != api.OK || len(found.Steps) != api.MaxVisits {
		t.Fatal(len(found.Steps), e)
	}
	all := counts(found.Steps)
	for at := 0; at < len(found.Steps); at += 97 {
		if found.Steps[at].Proved {
			sizes(t, f, found.Steps, at, told(all[at].nodes), all[at].levels)
		}
	}
	last := len(found.Steps) - 1
	x, e := translate.Term(f, found.Steps, last)
	if e != api.OK || term.Size(x) != told(all[last].nodes) || types.Check(f, translate.Hyps(s), x, s.Goal) != api.OK {
		t.Errorf("%d nodes, error %d", term.Size(x), e)
	}
}
