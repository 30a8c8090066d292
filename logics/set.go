package logics

import (
	"math/bits"

	"dictum/api"
)

// set is a set of worlds; the world w is bit w modulo 64 of word w / 64.
type set [api.MaxWorlds / wordSize]uint64

const wordSize = 64

func (s set) has(w int) bool { return s[w/wordSize]>>(w%wordSize)&1 == 1 }

func (s set) with(w int) set {
	s[w/wordSize] |= 1 << (w % wordSize)
	return s
}

func (s set) union(other set) set {
	for i, word := range other {
		s[i] |= word
	}
	return s
}

func (s set) meet(other set) set {
	for i, word := range other {
		s[i] &= word
	}
	return s
}

// meets tells whether two sets have a world in common.
func (s set) meets(other set) bool { return s.meet(other) != set{} }

// within tells whether all of a set is in another one.
func (s set) within(other set) bool { return s.meet(other) == s }

// worlds answers what a set has, rising.
func (s set) worlds() []int {
	var l []int
	for i, word := range s {
		for ; word != 0; word &= word - 1 { // without its lowest bit
			l = append(l, i*wordSize+bits.TrailingZeros64(word))
		}
	}
	return l
}
