package bits_test

import (
	"slices"
	"testing"

	"dictum/api"
	"dictum/bits"
)

// TestOf: P5.1, the set of the numbers, each in its own place of the row, in any order and however often.
func TestOf(t *testing.T) {
	for i, p := range samples() {
		l := p.list()
		if b, e := bits.Of(l...); b != p.row() || e != api.OK {
			t.Errorf("sample %d: %v, error %d", i, b, e)
		}
		slices.Reverse(l)
		if b, e := bits.Of(append(l, l...)...); b != p.row() || e != api.OK {
			t.Errorf("sample %d, falling and twice: %v, error %d", i, b, e)
		}
	}
	for n := range api.MaxForms {
		if b, e := bits.Of(n); b != plainOf(n).row() || e != api.OK {
			t.Errorf("Of(%d): %v, error %d", n, b, e)
		}
	}
	if b, e := bits.Of(); b != (api.Bits{}) || e != api.OK {
		t.Errorf("Of(): %v, error %d", b, e)
	}
	if b, e := bits.Of([]int{}...); b != (api.Bits{}) || e != api.OK {
		t.Errorf("Of of an empty list: %v, error %d", b, e)
	}
}

// TestOfRefused: P5.1, one number out of the row among any many, wherever it stands; no set beside the error.
func TestOfRefused(t *testing.T) {
	all := span(0, 1023).list()
	for _, n := range outside() {
		for _, l := range [][]int{{n}, {n, 5}, {5, n}, {5, n, 6}, {n, n}, append([]int{n}, all...), append(slices.Clone(all), n), slices.Insert(slices.Clone(all), 500, n)} {
			if b, e := bits.Of(l...); b != (api.Bits{}) || e != api.ErrBits {
				t.Errorf("Of of %d numbers with %d: %v, error %d", len(l), n, b, e)
			}
		}
	}
}

// TestOfKeepsList: R3, the list that is handed in stays as it was, and what is done to it later is not seen in the set.
func TestOfKeepsList(t *testing.T) {
	l := []int{7, 3, 1023, 3, 0}
	b := set(t, l...)
	if !slices.Equal(l, []int{7, 3, 1023, 3, 0}) {
		t.Errorf("the list became %v", l)
	}
	l[0] = 8
	if !slices.Equal(bits.List(b), []int{0, 3, 7, 1023}) {
		t.Errorf("the set became %v", bits.List(b))
	}
	bad := []int{7, 3, 1024, 1}
	if _, e := bits.Of(bad...); e != api.ErrBits || !slices.Equal(bad, []int{7, 3, 1024, 1}) {
		t.Errorf("the list became %v", bad)
	}
}

// TestList: P5.1, the numbers, rising.
func TestList(t *testing.T) {
	for i, p := range samples() {
		if l := bits.List(p.row()); !slices.Equal(l, p.list()) {
			t.Errorf("sample %d: %v", i, l)
		}
	}
	if l := bits.List(api.Bits{}); len(l) != 0 {
		t.Errorf("no number: %v", l)
	}
}

// TestListIsNew: R3, each answer is the caller's own.
func TestListIsNew(t *testing.T) {
	b := set(t, 3, 64)
	l := bits.List(b)
	l[0] = 900
	l = append(l, 901)
	if m := bits.List(b); !slices.Equal(m, []int{3, 64}) {
		t.Errorf("%v", m)
	}
}

// TestHas: P5.1, in and not in, at every number of the row.
func TestHas(t *testing.T) {
	for i, p := range samples() {
		b := p.row()
		for n, in := range p {
			if bits.Has(b, n) != in {
				t.Errorf("sample %d: Has %d is not %v", i, n, in)
			}
		}
		for _, n := range outside() {
			if bits.Has(b, n) {
				t.Errorf("sample %d has %d", i, n)
			}
		}
	}
}

// TestPut: P5.1, the set with the number, which may be there.
func TestPut(t *testing.T) {
	for i, p := range samples() {
		b := p.row()
		for _, n := range append(borders(), 7, 333, 777) {
			want := p
			want[n] = true
			if got, e := bits.Put(b, n); got != want.row() || e != api.OK {
				t.Errorf("sample %d: Put %d: %v, error %d", i, n, got, e)
			}
		}
		if b != p.row() {
			t.Errorf("sample %d: the row became %v", i, b)
		}
	}
}

// TestPutRefused: P5.1, the empty set beside the error.
func TestPutRefused(t *testing.T) {
	for i, p := range samples() {
		b := p.row()
		for _, n := range outside() {
			if got, e := bits.Put(b, n); got != (api.Bits{}) || e != api.ErrBits {
				t.Errorf("sample %d: Put %d: %v, error %d", i, n, got, e)
			}
		}
		if b != p.row() {
			t.Errorf("sample %d: the row became %v", i, b)
		}
	}
}

// TestDrop: P5.1, the set without the number, which may be missing, or be none of the row.
func TestDrop(t *testing.T) {
	for i, p := range samples() {
		b := p.row()
		for _, n := range append(borders(), 7, 333, 777) {
			want := p
			want[n] = false
			if got := bits.Drop(b, n); got != want.row() {
				t.Errorf("sample %d: Drop %d: %v", i, n, got)
			}
		}
		for _, n := range outside() {
			if got := bits.Drop(b, n); got != b {
				t.Errorf("sample %d: Drop %d: %v", i, n, got)
			}
		}
		if b != p.row() {
			t.Errorf("sample %d: the row became %v", i, b)
		}
	}
}
