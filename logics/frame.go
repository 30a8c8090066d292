package logics

import (
	"dictum/api"
	"dictum/worlds"
)

// frame is a well-formed model with what is reckoned of its order once a call.
type frame struct {
	m     api.Model
	all   []int // the worlds
	above []set // of each world
	below []set // of each world those that it is above
	ends  set   // the worlds that no other one is above
}

// frameOf reckons the order of a well-formed model. It goes up from each world once; layer 17's Above, asked world by world, would check the model as often.
func frameOf(m api.Model) *frame {
	many := len(m.Up)
	f := &frame{m: m, above: make([]set, many), below: make([]set, many)}
	for a := range many {
		f.all = append(f.all, a)
		f.goUp(a)
	}
	for a, above := range f.above {
		for _, b := range above.worlds() {
			f.below[b] = f.below[b].with(a)
		}
		if above == (set{}).with(a) {
			f.ends = f.ends.with(a)
		}
	}
	return f
}

// goUp reckons what is above a world, unless that was done, or the world tells itself.
func (f *frame) goUp(a int) {
	if f.above[a].has(a) {
		return
	}
	f.above[a] = f.above[a].with(a)
	for _, b := range f.m.Up[a] {
		f.goUp(b)
		f.above[a] = f.above[a].union(f.above[b])
	}
}

// condition tells whether an order is so.
type condition = func(f *frame) bool

// conditions answers what a logic of which orders are told asks of them.
func conditions(k api.Logic, n int) []condition {
	switch k {
	case api.LogicCL:
		return []condition{low(1)} // where a world is above another one, both are a row of two
	case api.LogicLC:
		return []condition{ofForks((*frame).inRow)}
	case api.LogicKC:
		return []condition{ofForks((*frame).meetAbove)}
	case api.LogicBD:
		return []condition{low(n)}
	case api.LogicKP:
		return []condition{ofForks((*frame).spanned)}
	}
	return []condition{ofForks((*frame).inRow), low(2)} // LogicSM's
}

// low answers what asks for a height of at most n.
func low(n int) condition {
	return func(f *frame) bool {
		height, _ := worlds.Height(f.m)
		return height <= n
	}
}

// ofForks answers what asks something of any two worlds that are above one.
func ofForks(holds func(f *frame, b, c int) bool) condition {
	return func(f *frame) bool {
		return every(f.all, func(b int) bool {
			return every(f.all[:b], func(c int) bool { // both the other way round say the same
				return !f.below[b].meets(f.below[c]) || holds(f, b, c)
			})
		})
	}
}

// inRow tells whether one of two worlds is above the other one.
func (f *frame) inRow(b, c int) bool { return f.above[b].has(c) || f.above[c].has(b) }

// meetAbove tells whether a world is above both.
func (f *frame) meetAbove(b, c int) bool { return f.above[b].meets(f.above[c]) }

// spanned tells whether one of two worlds is above the other one, or each a that both are above has a d above it as KP asks. Of d it is enough to look at the ends above it: one is above each e above d, and above an end is it alone.
func (f *frame) spanned(b, c int) bool {
	if f.inRow(b, c) {
		return true
	}
	either := f.above[b].union(f.above[c])
	under := f.below[b].meet(f.below[c]).worlds()
	var spanning set
	for _, d := range under {
		if f.above[d].meet(f.ends).within(either) {
			spanning = spanning.with(d)
		}
	}
	return every(under, func(a int) bool { return f.above[a].meets(spanning) })
}
