package bits_test

import (
	"slices"
	"testing"

	"dictum/api"
	"dictum/bits"
)

// TestAll: P5.2, the numbers, rising, a second time as the first.
func TestAll(t *testing.T) {
	for i, p := range samples() {
		all := bits.All(p.row())
		for range 2 {
			var l []int
			for n := range all {
				l = append(l, n)
			}
			if !slices.Equal(l, p.list()) {
				t.Errorf("sample %d: %v", i, l)
			}
		}
	}
	for n := range bits.All(api.Bits{}) {
		t.Errorf("the empty set has %d", n)
	}
}

// TestAllLeft: P5.2, left at each of its numbers, and then gone through from the beginning. (Go panics, if an iterator goes on after it was left.)
func TestAllLeft(t *testing.T) {
	for i, p := range samples() {
		all, want := bits.All(p.row()), p.list()
		for stop := 0; stop < len(want); stop += 1 + stop/5 {
			var l []int
			for n := range all {
				l = append(l, n)
				if n == want[stop] {
					break
				}
			}
			if !slices.Equal(l, want[:stop+1]) {
				t.Errorf("sample %d, left at %d: %v", i, want[stop], l)
			}
		}
		if l := slices.Collect(all); !slices.Equal(l, want) {
			t.Errorf("sample %d, after all: %v", i, l)
		}
	}
}

// TestAllLeftByReturn: P5.2, left out of a function at the first number.
func TestAllLeftByReturn(t *testing.T) {
	all := bits.All(set(t, 70, 64, 1023))
	first := func() int {
		for n := range all {
			return n
		}
		return -1
	}
	if first() != 64 || first() != 64 {
		t.Error("the first number is not 64 each time")
	}
}

// TestAllWithin: P5.2, two rangings over one iterator within each other do not disturb one another.
func TestAllWithin(t *testing.T) {
	want := []int{0, 1, 63, 64, 200, 1023}
	all := bits.All(set(t, want...))
	var outer []int
	for n := range all {
		outer = append(outer, n)
		var inner []int
		for m := range all {
			inner = append(inner, m)
			if m > n {
				break
			}
		}
		if size := min(len(outer)+1, len(want)); !slices.Equal(inner, want[:size]) {
			t.Errorf("within %d: %v", n, inner)
		}
	}
	if !slices.Equal(outer, want) {
		t.Errorf("the outer one: %v", outer)
	}
}

// TestAllKeepsItsSet: R3, what becomes of the caller's row later is not seen in the iterator.
func TestAllKeepsItsSet(t *testing.T) {
	b := set(t, 1, 2, 700)
	all := bits.All(b)
	b[0] = 0
	b, _ = bits.Put(b, 900)
	for n := range all {
		b[n/64] = 0
	}
	if l := slices.Collect(all); !slices.Equal(l, []int{1, 2, 700}) {
		t.Errorf("%v", l)
	}
}
