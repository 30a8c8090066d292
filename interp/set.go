package interp

import "dictum/api"

// set is the set of some numbers of formulas.
func set(ids ...int) api.Bits {
	var b api.Bits
	for _, id := range ids {
		b[id/64] |= 1 << (id % 64)
	}
	return b
}

// has tells whether a number stands in a set.
func has(b api.Bits, id int) bool { return b[id/64]>>(id%64)&1 == 1 }

// without is what stands in the first set and not in the second one.
func without(a, b api.Bits) api.Bits {
	for i := range a {
		a[i] &^= b[i]
	}
	return a
}
