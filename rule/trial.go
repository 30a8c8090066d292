package rule

import (
	"iter"
	"slices"

	"dictum/api"
	"dictum/bits"
	"dictum/formula"
)

// shape is a formula by the letters of the chapter's table: its kind, its parts A and B, and of an implication the kind of A, and the parts C and D of A.
type shape struct {
	id    int
	kind  api.Kind
	a, b  int
	given api.Kind
	c, d  int
}

// shapeOf answers the shape of a formula, and whether there is one of that number.
func shapeOf(t *formula.Table, id int) (shape, bool) {
	n, ok := t.Node(id)
	m := shape{id: id, kind: n.Kind, a: n.L, b: n.R}
	if n.Kind == api.KImp {
		given, _ := t.Node(n.L)
		m.given, m.c, m.d = given.Kind, given.L, given.R
	}
	return m, ok
}

// trial is a rule as it is tried on one sequent: whether it fits with a formula, and what it asks for then.
type trial struct {
	rule     api.Rule
	fits     func(m shape) bool
	premises func(m shape) []api.Seq
}

// work is what the rules are tried on within one call; full tells that a formula which a premise needs had no room.
type work struct {
	t      *formula.Table
	s      api.Seq
	trials []trial
	full   bool
}

func newWork(t *formula.Table, s api.Seq) *work {
	w := &work{t: t, s: s}
	w.trials = w.list()
	return w
}

// with answers a sequent with more on its left side.
func with(s api.Seq, more ...int) api.Seq {
	for _, id := range more {
		s.Left, _ = bits.Put(s.Left, id) // a row's number always has a place
	}
	return s
}

// to answers a sequent with another goal.
func to(s api.Seq, goal int) api.Seq {
	s.Goal = goal
	return s
}

// rest answers the sequent without a formula on its left side.
func (w *work) rest(m shape) api.Seq {
	return api.Seq{Left: bits.Drop(w.s.Left, m.id), Goal: w.s.Goal}
}

// inLeft tells whether a formula stands on the left side: the sequent with it is the same one.
func (w *work) inLeft(id int) bool { return with(w.s, id) == w.s }

// isGoal tells whether a formula is the goal.
func (w *work) isGoal(id int) bool { return to(w.s, id) == w.s }

// imp answers a -> b, which becomes a row, if it is none yet.
func (w *work) imp(a, b int) int {
	id, e := w.t.Imp(a, b)
	w.full = w.full || e != api.OK
	return id
}

// left answers what fits of formulas of a kind on the left side.
func (w *work) left(k api.Kind) func(shape) bool {
	return func(m shape) bool { return m.kind == k && w.inLeft(m.id) }
}

// from answers what fits of implications on the left side whose A is of a kind.
func (w *work) from(k api.Kind) func(shape) bool {
	return func(m shape) bool { return m.given == k && w.inLeft(m.id) }
}

// goal answers what fits of a goal of a kind.
func (w *work) goal(k api.Kind) func(shape) bool {
	return func(m shape) bool { return m.kind == k && w.isGoal(m.id) }
}

// list answers the rules, as the chapter's table tells them.
func (w *work) list() []trial {
	fromAtom := w.from(api.KAtom)
	none := func(shape) []api.Seq { return nil }
	return []trial{
		{api.RuleBot, w.left(api.KBot), none},
		{api.RuleId, func(m shape) bool { return w.isGoal(m.id) && w.inLeft(m.id) }, none},
		{api.RuleAndL, w.left(api.KAnd), func(m shape) []api.Seq {
			return []api.Seq{with(w.rest(m), m.a, m.b)}
		}},
		{api.RuleImpAtom, func(m shape) bool { return fromAtom(m) && w.inLeft(m.a) }, func(m shape) []api.Seq {
			return []api.Seq{with(w.rest(m), m.b)}
		}},
		{api.RuleImpBot, w.from(api.KBot), func(m shape) []api.Seq {
			return []api.Seq{w.rest(m)}
		}},
		{api.RuleImpAnd, w.from(api.KAnd), func(m shape) []api.Seq {
			return []api.Seq{with(w.rest(m), w.imp(m.c, w.imp(m.d, m.b)))}
		}},
		{api.RuleImpOr, w.from(api.KOr), func(m shape) []api.Seq {
			return []api.Seq{with(w.rest(m), w.imp(m.c, m.b), w.imp(m.d, m.b))}
		}},
		{api.RuleImpR, w.goal(api.KImp), func(m shape) []api.Seq {
			return []api.Seq{to(with(w.s, m.a), m.b)}
		}},
		{api.RuleAndR, w.goal(api.KAnd), func(m shape) []api.Seq {
			return []api.Seq{to(w.s, m.a), to(w.s, m.b)}
		}},
		{api.RuleOrL, w.left(api.KOr), func(m shape) []api.Seq {
			return []api.Seq{with(w.rest(m), m.a), with(w.rest(m), m.b)}
		}},
		{api.RuleOrR1, w.goal(api.KOr), func(m shape) []api.Seq {
			return []api.Seq{to(w.s, m.a)}
		}},
		{api.RuleOrR2, w.goal(api.KOr), func(m shape) []api.Seq {
			return []api.Seq{to(w.s, m.b)}
		}},
		{api.RuleImpImp, w.from(api.KImp), func(m shape) []api.Seq {
			return []api.Seq{to(with(w.rest(m), w.imp(m.d, m.b)), m.a), with(w.rest(m), m.b)}
		}},
	}
}

// find answers the trial of a rule and the shape of a formula, and whether the rule fits with it.
func (w *work) find(k api.Rule, main int) (trial, shape, bool) {
	m, ok := shapeOf(w.t, main)
	l := w.of(k)
	if !ok || len(l) == 0 || !l[0].fits(m) {
		return trial{}, shape{}, false
	}
	return l[0], m, true
}

// of answers the trials of some rules.
func (w *work) of(rules ...api.Rule) []trial {
	return slices.DeleteFunc(slices.Clone(w.trials), func(r trial) bool { return !slices.Contains(rules, r.rule) })
}

// sides answers the shapes of all formulas of the sequent, rising: what any rule fits with is one of them.
func (w *work) sides() []shape {
	var l []shape
	for id := range bits.All(with(w.s, w.s.Goal).Left) {
		m, _ := shapeOf(w.t, id)
		l = append(l, m)
	}
	return l
}

// fitting goes through the rules that fit, with their mains, turn by turn: within a turn by rising mains.
func (w *work) fitting(turns [][]api.Rule) iter.Seq2[api.Rule, int] {
	mains := w.sides()
	return func(yield func(api.Rule, int) bool) {
		for _, turn := range turns {
			trials := w.of(turn...)
			for _, m := range mains {
				for _, r := range trials {
					if r.fits(m) && !yield(r.rule, m.id) {
						return
					}
				}
			}
		}
	}
}
