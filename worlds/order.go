package worlds

import (
	"slices"

	"dictum/api"
	"dictum/formula"
)

// asker tells of two worlds whether the first one is at most the second one.
type asker = func(a, b int) bool

// reckoned answers what asks the order of a model's worlds, unless the model is not well-formed, or one of some numbers is no world's.
func reckoned(m api.Model, some ...int) (asker, api.Errno) {
	if !shaped(m) {
		return nil, api.ErrModel
	}
	leq, ok := ordered(m)
	if !ok {
		return nil, api.ErrModel
	}
	if !areWorlds(some, len(m.Up)) {
		return nil, api.ErrArg
	}
	return leq, api.OK
}

// shaped tells whether a model's rows are what they must be one by one.
func shaped(m api.Model) bool {
	many := len(m.Up)
	if many < 1 || many > api.MaxWorlds || len(m.Val) != many {
		return false
	}
	for w := range many {
		if !areWorlds(m.Up[w], many) || !areNames(m.Val[w]) {
			return false
		}
	}
	return true
}

// areWorlds tells whether all numbers are those of worlds, of which there are many.
func areWorlds(l []int, many int) bool {
	return !slices.ContainsFunc(l, func(w int) bool { return w < 0 || w >= many })
}

// areNames tells whether names are some, and rise strictly.
func areNames(l []string) bool {
	for i, name := range l {
		if !formula.Word(name) || i > 0 && l[i-1] >= name {
			return false
		}
	}
	return true
}

// set is a set of worlds.
type set [api.MaxWorlds / wordSize]uint64

const wordSize = 64

func (s *set) has(w int) bool { return s[w/wordSize]&(1<<(w%wordSize)) != 0 }

func (s *set) put(w int) { s[w/wordSize] |= 1 << (w % wordSize) }

func (s *set) join(other *set) {
	for i, word := range other {
		s[i] |= word
	}
}

// reckoner goes up from each world of a shaped model once.
type reckoner struct {
	m     api.Model
	above []set // what is above a world, as far as it is known
	stage []int
}

// The stages of a world.
const (
	unseen = iota
	onWay  // the worlds that are told above it are gone through
	done
)

// ordered reckons a shaped model's order, and answers what asks it; false, if two worlds are each above the other one, or what is true does not stay true.
func ordered(m api.Model) (asker, bool) {
	r := reckoner{m: m, above: make([]set, len(m.Up)), stage: make([]int, len(m.Up))}
	for w := range m.Up {
		if r.stage[w] == unseen && !r.goUp(w) {
			return nil, false
		}
	}
	return func(a, b int) bool { return r.above[a].has(b) }, true
}

// goUp reckons what is above a world that is unseen; false, as ordered says.
func (r *reckoner) goUp(w int) bool {
	r.stage[w] = onWay
	r.above[w].put(w)
	for _, v := range r.m.Up[w] {
		if r.above[w].has(v) { // it is w, or was reached by way of others: all above it is in, and what is true in w was asked for on that way
			continue
		}
		if r.stage[v] == onWay || r.stage[v] == unseen && !r.goUp(v) {
			return false
		}
		if !within(r.m.Val[w], r.m.Val[v]) {
			return false
		}
		r.above[w].join(&r.above[v])
	}
	r.stage[w] = done
	return true
}

// within tells whether all of some names are among others; both rise strictly.
func within(some, others []string) bool {
	at := 0
	for _, name := range some {
		for at < len(others) && others[at] < name {
			at++
		}
		if at == len(others) || others[at] != name {
			return false
		}
	}
	return true
}

// chosen answers the worlds, of which there are many, that are as a function asks, rising.
func chosen(many int, as func(w int) bool) []int {
	var l []int
	for w := range many {
		if as(w) {
			l = append(l, w)
		}
	}
	return l
}

// isRoot tells whether all worlds are above one.
func isRoot(w, many int, leq asker) bool {
	for v := range many {
		if !leq(w, v) {
			return false
		}
	}
	return true
}

// over answers the worlds above one, other than itself.
func over(w, many int, leq asker) []int {
	return chosen(many, func(v int) bool { return v != w && leq(w, v) })
}

// next answers the worlds above one between which and it no third one is.
func next(w, many int, leq asker) []int {
	all := over(w, many, leq)
	between := func(v int) bool {
		return slices.ContainsFunc(all, func(third int) bool { return third != v && leq(third, v) })
	}
	return slices.DeleteFunc(slices.Clone(all), between)
}

// height tells how many worlds the longest row has that goes up.
func height(many int, leq asker) int {
	known := make([]int, many) // of rows that begin with a world; 0: not yet known
	var from func(w int) int
	from = func(w int) int {
		if known[w] == 0 {
			longest := 0
			for _, v := range over(w, many, leq) {
				longest = max(longest, from(v))
			}
			known[w] = longest + 1
		}
		return known[w]
	}
	most := 0
	for w := range many {
		most = max(most, from(w))
	}
	return most
}
