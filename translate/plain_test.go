package translate_test

import (
	"math/big"
	"strconv"
	"testing"

	"dictum/api"
	"dictum/formula"
	"dictum/search"
	"dictum/term"
	"dictum/translate"
)

// reader reads P15.3 as it stands: the table's column of terms as texts, which layer 12 reads.
type reader struct {
	t     *testing.T
	table *formula.Table
	steps []api.Step
}

func h(id int) string { return "h" + strconv.Itoa(id) }

func beside(id int) string { return "f" + strconv.Itoa(id) }

// row is the formula of a number, which is one.
func (r reader) row(id int) api.Node {
	r.t.Helper()
	n, ok := r.table.Node(id)
	if !ok {
		r.t.Fatalf("no row %d", id)
	}
	return n
}

// imp is the number of an implication, whose row is looked for among all.
func (r reader) imp(a, b int) int {
	r.t.Helper()
	for id, n := range r.table.Rows() {
		if n == join(api.KImp, a, b) {
			return id
		}
	}
	r.t.Fatalf("%d -> %d is no row", a, b)
	return 0
}

// term is a step's term, read of its text. In the text an atom f7 stands for the formula 7, which may have more tokens than layer 4 reads.
func (r reader) term(at int) api.Term {
	r.t.Helper()
	f := formula.New()
	x, fault := term.Parse(f, r.text(at))
	if fault.Code != api.OK {
		r.t.Fatalf("%.300q: error %d at %v", r.text(at), fault.Code, fault.At)
	}
	return numbered(f, x)
}

// numbered is a term with the formula 7 beside where it had the atom f7.
func numbered(f *formula.Table, x api.Term) api.Term {
	if x.Kind == api.TThe {
		n, _ := f.Node(x.Form)
		x.Form, _ = strconv.Atoi(n.Name[1:])
	}
	for i, part := range x.Sub {
		x.Sub[i] = numbered(f, part)
	}
	return x
}

// text is the text of a step's term, with more parentheses than there must be.
func (r reader) text(at int) string {
	r.t.Helper()
	step := r.steps[at]
	m := h(step.Main)
	n := r.row(step.Main)
	kid := func(i int) string { return "(" + r.text(step.Kids[i]) + ")" }
	switch step.Rule {
	case api.RuleBot:
		return "abort " + m
	case api.RuleId:
		return m
	case api.RuleAndL:
		return "let " + h(n.L) + " = fst " + m + " in let " + h(n.R) + " = snd " + m + " in " + kid(0)
	case api.RuleImpAtom:
		return "let " + h(n.R) + " = " + m + " " + h(n.L) + " in " + kid(0)
	case api.RuleImpBot:
		return kid(0)
	case api.RuleImpR:
		return "fun " + h(n.L) + " => " + kid(0)
	case api.RuleAndR:
		return "(" + kid(0) + ", " + kid(1) + ")"
	case api.RuleOrL:
		return "case " + m + " of " + h(n.L) + " => " + kid(0) + " | " + h(n.R) + " => " + kid(1)
	case api.RuleOrR1:
		return "inl " + kid(0)
	case api.RuleOrR2:
		return "inr " + kid(0)
	}
	given := r.row(n.L)
	c, d, b := h(given.L), h(given.R), h(n.R)
	switch step.Rule {
	case api.RuleImpAnd:
		f := r.imp(given.L, r.imp(given.R, n.R))
		return "let " + h(f) + " = ((fun " + c + " => fun " + d + " => " + m + " (" + c + ", " + d + ")) : " + beside(f) + ") in " + kid(0)
	case api.RuleImpOr:
		f, g := r.imp(given.L, n.R), r.imp(given.R, n.R)
		return "let " + h(f) + " = ((fun " + c + " => " + m + " (inl " + c + ")) : " + beside(f) + ") in let " + h(g) + " = ((fun " + d + " => " + m + " (inr " + d + ")) : " + beside(g) + ") in " + kid(0)
	case api.RuleImpImp:
		f := r.imp(given.R, n.R)
		return "let " + b + " = " + m + " (let " + h(f) + " = ((fun " + d + " => " + m + " (fun " + c + " => " + d + ")) : " + beside(f) + ") in " + kid(0) + ") in " + kid(1)
	}
	r.t.Fatalf("rule %d", step.Rule)
	return ""
}

// counted is how many nodes and levels a step's term has: what P15.3's terms have beside T (or T1, T2), counted by hand. What is known of kids is kept.
type counted struct {
	nodes  *big.Int
	levels int
}

func counts(steps []api.Step) []counted {
	l := make([]counted, len(steps))
	for i, step := range steps {
		if !step.Proved {
			continue
		}
		var own, least int
		up := []int{1, 1} // by how many levels T1 and T2 stand below the top
		switch step.Rule {
		case api.RuleBot:
			own, least = 2, 2
		case api.RuleId:
			own, least = 1, 1
		case api.RuleAndL:
			own, least, up = 6, 4, []int{2}
		case api.RuleImpAtom:
			own, least = 4, 3
		case api.RuleImpBot:
			up = []int{0}
		case api.RuleImpAnd:
			own, least = 9, 7
		case api.RuleImpOr:
			own, least, up = 14, 7, []int{2}
		case api.RuleOrL:
			own, least = 2, 2
		case api.RuleImpImp:
			own, least, up = 10, 8, []int{3, 1}
		default: // RuleImpR, RuleAndR, RuleOrR1, RuleOrR2
			own = 1
		}
		l[i] = counted{big.NewInt(int64(own)), least}
		for place, kid := range step.Kids {
			l[i].nodes.Add(l[i].nodes, l[kid].nodes)
			l[i].levels = max(l[i].levels, l[kid].levels+up[place])
		}
	}
	return l
}

// told is a count as Size tells it.
func told(n *big.Int) int {
	if n.Cmp(big.NewInt(1<<31-1)) > 0 {
		return 1<<31 - 1
	}
	return int(n.Int64())
}

// holds holds Size and Term of each step against the chapter's words, and answers how many terms were held against their texts.
func holds(t *testing.T, f *formula.Table, steps []api.Step) int {
	t.Helper()
	many := 0
	all := counts(steps)
	for at, step := range steps {
		if !step.Proved {
			refuses(t, f, steps, at, api.ErrArg)
			continue
		}
		nodes, levels := told(all[at].nodes), all[at].levels
		switch {
		case nodes > api.MaxTerm || levels > api.MaxDeep:
			tooBig(t, f, steps, at, nodes, levels)
			continue
		case nodes > 400:
			sizes(t, f, steps, at, nodes, levels)
			x, e := translate.Term(f, steps, at)
			if e != api.OK || term.Size(x) != nodes || term.Deep(x) != levels {
				t.Errorf("%d nodes, %d levels, error %d, not %d, %d", term.Size(x), term.Deep(x), e, nodes, levels)
			}
			continue
		}
		gives(t, f, steps, at, reader{t, f, steps}.term(at))
		sizes(t, f, steps, at, nodes, levels)
		many++
	}
	if t.Failed() {
		t.Fatalf("rows %v, steps %s", f.Rows(), showSteps(steps))
	}
	return many
}

// TestPlainChance: P15.2 and P15.3, of steps by chance, all of them.
func TestPlainChance(t *testing.T) {
	chance := newChance(2)
	uses := map[api.Rule]int{}
	many := 0
	for range 6000 {
		f, steps := someSteps(t, chance)
		if len(steps) == 0 {
			continue
		}
		many += holds(t, f, steps)
		for _, step := range steps {
			if step.Proved {
				uses[step.Rule]++
			}
		}
	}
	for k := api.RuleBot; k <= api.RuleImpImp; k++ {
		if uses[k] < 200 {
			t.Errorf("rule %d: %d steps", k, uses[k])
		}
	}
	if many < 8000 {
		t.Errorf("%d terms", many)
	}
}

// TestPlainSmall: P15.2 and P15.3, of what the search finds of all sequents of some small formulas, with at most two on the left side.
func TestPlainSmall(t *testing.T) {
	rows := rowsOf(t, "p", "q", "false", "p & q", "p | q", "p -> q", "~p", "p & p", "q | q", "p -> p", "false -> p", "p & q -> q", "p | q -> p", "(p -> q) -> p", "~~p", "p & p -> q", "p | p", "p | p -> q", "(p -> p) -> q").Rows()
	for goal := range rows {
		for one := range rows {
			for two := range one + 1 {
				f := made(t, rows...)
				found, e := search.Run(f, seq(goal, one, two), api.MaxVisits)
				if e != api.OK {
					t.Fatal(e)
				}
				holds(t, f, found.Steps)
			}
		}
	}
}
