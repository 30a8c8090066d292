package heyting

import "dictum/api"

// set is a set of elements, or of worlds, as a number: bit n is 1, if it has n. There are no more elements than it has bits, and of a model of more worlds than that there are too many up-sets.
type set uint64

func (s set) with(n int) set { return s | 1<<n }

func (s set) has(n int) bool { return s>>n&1 == 1 }

// within tells whether all of a set is in another one.
func (s set) within(other set) bool { return s&^other == 0 }

// numbers answers what a set has, rising.
func (s set) numbers() []int {
	var l []int
	for n := range api.MaxElems {
		if s.has(n) {
			l = append(l, n)
		}
	}
	return l
}

// chosen answers the set of what a function takes, of so many.
func chosen(many int, takes func(n int) bool) set {
	var s set
	for n := range many {
		if takes(n) {
			s = s.with(n)
		}
	}
	return s
}
