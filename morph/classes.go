package morph

import (
	"slices"

	"dictum/api"
)

// isBounded tells whether f, of which each number is a world of n, is a bounded morphism. That what is above a goes above f(a), and that all above f(a) is met, is one thing: f takes the worlds above a to just those above f(a).
func isBounded(m, n api.Model, f []int) bool {
	met, above := seen(m, f), seen(n, upTo(len(n.Up)))
	for a, c := range f {
		if !slices.Equal(m.Val[a], n.Val[c]) || met[a] != above[c] {
			return false
		}
	}
	return true
}

// classes answers the classes of bisimilar worlds of a well-formed model. All worlds are taken for bisimilar until two have other atoms, or one sees a class above it that the other one does not; where no class parts for that any more, being in one class is such a relation as bisimilar worlds need, and there is no wider one.
func classes(m api.Model) []int {
	one := make([]int, len(m.Up))
	class := parted(one, func(a, b int) bool { return !slices.Equal(m.Val[a], m.Val[b]) })
	for {
		above := seen(m, class)
		finer := parted(class, func(a, b int) bool { return above[a] != above[b] })
		if slices.Equal(finer, class) {
			return class
		}
		class = finer
	}
}

// parted answers the classes into which classes part, as a function tells of two worlds of one of them, numbered in the order of their least worlds.
func parted(class []int, part func(a, b int) bool) []int {
	var finer []int
	many := 0
	least := make([][]int, len(class)) // of each class the least worlds of those into which it parts
	for w, c := range class {
		if i := slices.IndexFunc(least[c], func(v int) bool { return !part(v, w) }); i >= 0 {
			finer = append(finer, finer[least[c][i]])
			continue
		}
		least[c] = append(least[c], w)
		finer = append(finer, many)
		many++
	}
	return finer
}

// set is a set of numbers below MaxWorlds: of worlds or of classes.
type set [api.MaxWorlds / wordSize]uint64

const wordSize = 64

func (s *set) has(n int) bool { return s[n/wordSize]&(1<<(n%wordSize)) != 0 }

func (s *set) put(n int) { s[n/wordSize] |= 1 << (n % wordSize) }

func (s *set) join(other *set) {
	for i, word := range other {
		s[i] |= word
	}
}

// seen answers of each world of a well-formed model which numbers the worlds above it have, itself, too. It goes up from each world once; layer 17's Above, asked world by world, would check the model as often.
func seen(m api.Model, number []int) []set {
	sets := make([]set, len(m.Up))
	var goUp func(w int)
	goUp = func(w int) {
		if sets[w].has(number[w]) { // it was gone up from, or tells itself
			return
		}
		sets[w].put(number[w])
		for _, v := range m.Up[w] {
			goUp(v)
			sets[w].join(&sets[v])
		}
	}
	for w := range m.Up {
		goUp(w)
	}
	return sets
}

// upTo answers the numbers below one.
func upTo(many int) []int {
	var l []int
	for n := range many {
		l = append(l, n)
	}
	return l
}
