package force

import (
	"iter"
	"slices"

	"dictum/api"
	"dictum/formula"
)

// upSet is a set of a frame's worlds, as its number: bit w is 1, if it has the world w.
type upSet uint8

func (s upSet) has(w int) bool { return s>>w&1 == 1 }

// frame has of each of its worlds the set of those above it.
type frame []upSet

// frameOf answers the frame of a well-formed model of at most MaxFrame worlds.
func frameOf(m api.Model) frame {
	var above frame
	for _, set := range reckoned(m) {
		above = append(above, upSet(set[0])) // both have bit w for the world w
	}
	return above
}

// all answers the set of all worlds.
func (f frame) all() upSet { return 1<<len(f) - 1 }

// upSets goes through the up-sets by their numbers.
func (f frame) upSets() iter.Seq[upSet] {
	return func(yield func(upSet) bool) {
		for number := range int(f.all()) + 1 {
			if set := upSet(number); f.isUpSet(set) && !yield(set) {
				return
			}
		}
	}
}

func (f frame) isUpSet(set upSet) bool {
	for w, above := range f {
		if set.has(w) && above&^set != 0 {
			return false
		}
	}
	return true
}

// implied answers the worlds above which none is in a and not in b.
func (f frame) implied(a, b upSet) upSet {
	var set upSet
	for w, above := range f {
		if above&a&^b == 0 {
			set |= 1 << w
		}
	}
	return set
}

// valuation has of each atom the up-set in which it is true; behind the last atom stands nothing.
type valuation [api.MaxVary]upSet

// valuations answers all of so many atoms, the first atom's set changing last.
func (f frame) valuations(atoms int) []valuation {
	all := []valuation{{}}
	for at := range atoms {
		var longer []valuation
		for _, one := range all {
			for set := range f.upSets() {
				one[at] = set
				longer = append(longer, one)
			}
		}
		all = longer
	}
	return all
}

// together is how many models are asked at one time: what a formula costs besides is spread over them, and the first one that refutes is mostly early.
const together = 256

// refuting answers the first valuation of atoms with which a formula is not valid, if there is one.
func (f frame) refuting(t *formula.Table, atoms []string, id int) (valuation, bool) {
	for some := range slices.Chunk(f.valuations(len(atoms)), together) {
		where := f.inModels(t, atoms, some)(id)
		if at := slices.IndexFunc(where, func(set upSet) bool { return set != f.all() }); at >= 0 {
			return some[at], true
		}
	}
	return valuation{}, false
}

// inModels answers what asks for the worlds that force a formula, with one valuation after the other.
func (f frame) inModels(t *formula.Table, atoms []string, some []valuation) func(id int) []upSet {
	return asking(t, algebra[[]upSet]{
		atom: func(name string) []upSet {
			at := slices.Index(atoms, name)
			sets := make([]upSet, len(some))
			for i, one := range some {
				sets[i] = one[at]
			}
			return sets
		},
		none: make([]upSet, len(some)),
		and:  eachOf(func(a, b upSet) upSet { return a & b }),
		or:   eachOf(func(a, b upSet) upSet { return a | b }),
		imp:  eachOf(f.implied),
	})
}

// eachOf answers what joins two rows of sets, each with the one at its place.
func eachOf(joined func(a, b upSet) upSet) func(a, b []upSet) []upSet {
	return func(a, b []upSet) []upSet {
		sets := make([]upSet, len(a))
		for i := range a {
			sets[i] = joined(a[i], b[i])
		}
		return sets
	}
}

// valued answers the model that has the worlds of another one in its order, and in which each atom is true in the worlds of its set.
func valued(m api.Model, atoms []string, sets valuation) api.Model {
	var other api.Model
	for w, row := range m.Up {
		var names []string
		for i, name := range atoms {
			if sets[i].has(w) {
				names = append(names, name)
			}
		}
		other.Up = append(other.Up, slices.Clone(row))
		other.Val = append(other.Val, names)
	}
	return other
}
