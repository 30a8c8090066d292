package counter

import (
	"cmp"
	"maps"
	"slices"

	"dictum/api"
	"dictum/bits"
	"dictum/deriv"
	"dictum/formula"
)

// refused tells what is wrong with a table, steps and the number of one that should be refuted, if anything is.
func refused(t *formula.Table, steps []api.Step, at int) api.Errno {
	if e := deriv.Check(t, steps); e != api.OK {
		return e
	}
	if at < 0 || at >= len(steps) || steps[at].Proved {
		return api.ErrArg
	}
	return api.OK
}

// stuckOnes answers of each of right steps that is refuted the step that is its world; 0 of the others, which have none. Kids stand ahead of what stands on them, so one way up finds all.
func stuckOnes(steps []api.Step) []int {
	stuck := make([]int, len(steps))
	for i, step := range steps {
		switch {
		case step.Proved:
		case step.Rule == api.RuleStuck:
			stuck[i] = i
		default:
			stuck[i] = stuck[step.Kids[0]]
		}
	}
	return stuck
}

// gathered answers the steps that are worlds of a refuted step's model, the greatest number first; of more than a model may have, one too many.
func gathered(steps []api.Step, stuck []int, at int) []int {
	found := map[int]struct{}{}
	var gather func(i int)
	gather = func(i int) {
		if _, ok := found[i]; ok || len(found) > api.MaxWorlds {
			return
		}
		found[i] = struct{}{}
		for _, kid := range steps[i].Kids {
			gather(stuck[kid])
		}
	}
	gather(stuck[at])
	l := slices.Sorted(maps.Keys(found))
	slices.Reverse(l)
	return l
}

// atomsOf answers the names of the atoms in a set of formulas.
func atomsOf(t *formula.Table, set api.Bits) []string {
	var names []string
	for id := range bits.All(set) {
		if row, _ := t.Node(id); row.Kind == api.KAtom {
			names = append(names, row.Name)
		}
	}
	return names
}

// rising sorts a row of a model, of numbers or of names, and leaves each once.
func rising[E cmp.Ordered](row []E) []E {
	slices.Sort(row)
	return slices.Compact(row)
}
