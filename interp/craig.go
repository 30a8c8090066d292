package interp

import (
	"slices"

	"dictum/api"
	"dictum/formula"
	"dictum/measure"
)

// split is a proved step with its left side in two: what is far stands on the other side than the goal.
type split struct {
	step int
	far  api.Bits
}

// between finds formulas between the two sides of proved steps, as Maehara does: what is far proves them, and they, with what is near, prove the goal.
type between struct {
	*maker
	from  *formula.Table
	steps []api.Step
	told  map[split]int
}

// between answers a formula between the left side of the last step, which is all far, and its goal.
func (m *maker) between(from *formula.Table, steps []api.Step) int {
	b := &between{m, from, steps, map[split]int{}}
	last := len(steps) - 1
	return b.of(split{last, steps[last].Seq.Left})
}

func (b *between) of(s split) int {
	if id, ok := b.told[s]; ok {
		return id
	}
	var parts []int
	for i := range b.steps[s.step].Kids {
		parts = append(parts, b.of(b.kid(s, i)))
	}
	id := b.joined(s)(parts)
	b.told[s] = id
	return id
}

// kid answers a premise's split: what is new there stands on the side of the formula of which it was made, and so does the goal of RuleImpImp's first premise.
func (b *between) kid(s split, i int) split {
	step := b.steps[s.step]
	kid := step.Kids[i]
	left := b.steps[kid].Seq.Left
	near := without(step.Seq.Left, s.far)
	switch {
	case !has(s.far, step.Main):
		return split{kid, without(left, without(left, s.far))}
	case step.Rule == api.RuleImpImp && i == 0:
		return split{kid, without(left, without(left, near))}
	}
	return split{kid, without(left, near)}
}

// joined answers how the formula of a split is joined of its premises'.
func (b *between) joined(s split) func(parts []int) int {
	step := b.steps[s.step]
	far := has(s.far, step.Main)
	switch step.Rule {
	case api.RuleBot:
		return b.ended(far, b.bot)
	case api.RuleId:
		return b.ended(far, func() int { return b.take(b.from, step.Main) })
	case api.RuleImpAtom:
		return b.crossed(s, far)
	case api.RuleAndR:
		return two(b.both)
	case api.RuleOrL:
		if far {
			return two(b.either)
		}
		return two(b.both)
	case api.RuleImpImp:
		if far {
			return two(b.then)
		}
		return two(b.both)
	}
	return same
}

func same(parts []int) int { return parts[0] }

func two(join func(l, r int) int) func(parts []int) int {
	return func(parts []int) int { return join(parts[0], parts[1]) }
}

// ended joins no premises: what is far has to say what ends the step, or what is near needs nothing.
func (b *between) ended(far bool, said func() int) func(parts []int) int {
	return func([]int) int {
		if far {
			return said()
		}
		return b.top()
	}
}

// crossed joins the premise of RuleImpAtom, where the atom may stand on the other side than the implication that it opens.
func (b *between) crossed(s split, far bool) func(parts []int) int {
	n, _ := b.from.Node(b.steps[s.step].Main)
	atomFar := has(s.far, n.L)
	atom := func() int { return b.take(b.from, n.L) }
	switch {
	case far && !atomFar:
		return func(parts []int) int { return b.then(atom(), parts[0]) }
	case atomFar && !far:
		return func(parts []int) int { return b.both(atom(), parts[0]) }
	}
	return same
}

// overAll answers what is left of a formula without the atoms that another one does not have.
func (m *maker) overAll(id, other int, all bool) int {
	names, _ := measure.Atoms(m.t, id)
	kept, _ := measure.Atoms(m.t, other)
	for _, name := range names {
		if !slices.Contains(kept, name) {
			id = m.over(id, name, all)
		}
	}
	return id
}

// ways are the ways to a formula between two, a and b, the last step of a search being a |- b: what the search tells, what is left of a without the atoms that b does not have, and of b without those that a does not have.
func ways(t *formula.Table, steps []api.Step, a, b int) []func(m *maker) int {
	return []func(m *maker) int{
		func(m *maker) int { return m.between(t, steps) },
		func(m *maker) int { return m.overAll(m.take(t, a), m.take(t, b), false) },
		func(m *maker) int { return m.overAll(m.take(t, b), m.take(t, a), true) },
	}
}
