package heyting

import (
	"slices"

	"dictum/api"
	"dictum/worlds"
)

// upSets answers the up-sets of a model by their numbers. They are the empty one and what worlds together, each with all above it, make.
func upSets(m api.Model) ([]set, api.Errno) {
	if e := worlds.Check(m); e != api.OK {
		return nil, e
	}
	if len(m.Up) >= api.MaxElems { // those of the worlds one by one, and the empty one, are too many already
		return nil, api.ErrMany
	}
	sets := []set{0}
	for _, above := range aboveEach(m) {
		for _, s := range sets {
			if more := s | above; !slices.Contains(sets, more) {
				sets = append(sets, more)
			}
		}
		if len(sets) > api.MaxElems { // there are but more of them with the next world
			return nil, api.ErrMany
		}
	}
	slices.Sort(sets)
	return sets, api.OK
}

// aboveEach answers of each world of a well-formed model of few worlds the set of those above it.
func aboveEach(m api.Model) []set {
	// Above checks all that it is handed for each world anew: so it is handed no atoms, and as few numbers as may be.
	frame, _ := worlds.Tidy(api.Model{Up: m.Up, Val: make([][]string, len(m.Up))})
	var sets []set
	for w := range frame.Up {
		var above set
		l, _ := worlds.Above(frame, w)
		for _, v := range l {
			above = above.with(v)
		}
		sets = append(sets, above)
	}
	return sets
}
