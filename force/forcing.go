package force

import (
	"slices"

	"dictum/api"
	"dictum/bits"
	"dictum/formula"
)

// algebra tells where formulas are forced, if S says it of one formula: of an atom, of false, and of what is joined by what was found out of its parts.
type algebra[S any] struct {
	atom func(name string) S
	none S
	and  func(a, b S) S
	or   func(a, b S) S
	imp  func(a, b S) S
}

// asking answers what asks for formulas of a table. What was found out of a formula, world by world, is kept: else the work would double from row to row where a formula has a part twice.
func asking[S any](t *formula.Table, by algebra[S]) func(id int) S {
	known := map[int]S{}
	var ask func(id int) S
	ask = func(id int) S {
		if where, ok := known[id]; ok {
			return where
		}
		where := by.none
		switch row, _ := t.Node(id); row.Kind {
		case api.KAtom:
			where = by.atom(row.Name)
		case api.KAnd:
			where = by.and(ask(row.L), ask(row.R))
		case api.KOr:
			where = by.or(ask(row.L), ask(row.R))
		case api.KImp:
			where = by.imp(ask(row.L), ask(row.R))
		}
		known[id] = where
		return where
	}
	return ask
}

// inModel answers what asks for the worlds of a well-formed model that force a formula. A set of worlds is one of layer 5's, since no model has more worlds than a table has formulas.
func inModel(t *formula.Table, m api.Model) func(id int) api.Bits {
	above := reckoned(m)
	return asking(t, algebra[api.Bits]{
		atom: func(name string) api.Bits {
			return chosen(len(m.Val), func(w int) bool {
				_, ok := slices.BinarySearch(m.Val[w], name)
				return ok
			})
		},
		and: bits.Meet,
		or:  bits.Union,
		imp: func(a, b api.Bits) api.Bits {
			against := bits.Minus(a, b)
			return chosen(len(above), func(w int) bool { return bits.Meet(above[w], against) == (api.Bits{}) })
		},
	})
}

// chosen answers the set of the worlds, of which there are many, that are as a function asks.
func chosen(many int, as func(w int) bool) api.Bits {
	var set api.Bits
	for w := range many {
		if as(w) {
			set, _ = bits.Put(set, w)
		}
	}
	return set
}

// reckoned answers of each world of a well-formed model the set of those above it. It goes up from each world once; layer 17's Above, asked world by world, would check the model as often.
func reckoned(m api.Model) []api.Bits {
	above := make([]api.Bits, len(m.Up))
	var goUp func(w int)
	goUp = func(w int) {
		if bits.Has(above[w], w) { // it was gone up from, or tells itself
			return
		}
		above[w], _ = bits.Put(above[w], w)
		for _, v := range m.Up[w] {
			goUp(v)
			above[w] = bits.Union(above[w], above[v])
		}
	}
	for w := range m.Up {
		goUp(w)
	}
	return above
}
