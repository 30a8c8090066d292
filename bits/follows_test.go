package bits_test

import (
	"slices"
	"testing"

	"dictum/api"
	"dictum/bits"
)

// threes hands each three of a number of sets to a test.
func threes(test func(a, b, c api.Bits)) {
	var l []api.Bits
	for i, p := range samples() {
		if i%4 == 0 || i < 8 {
			l = append(l, p.row())
		}
	}
	for _, a := range l {
		for _, b := range l {
			for _, c := range l {
				test(a, b, c)
			}
		}
	}
}

// TestBooleanAlgebra: P5.5, the laws of a Boolean algebra, De Morgan's rules with what a third set has besides.
func TestBooleanAlgebra(t *testing.T) {
	union, meet, minus := bits.Union, bits.Meet, bits.Minus
	none, whole := api.Bits{}, span(0, 1023).row()
	threes(func(a, b, c api.Bits) {
		laws := []struct {
			name        string
			left, right api.Bits
		}{
			{"union turned", union(a, b), union(b, a)},
			{"meet turned", meet(a, b), meet(b, a)},
			{"unions", union(a, union(b, c)), union(union(a, b), c)},
			{"meets", meet(a, meet(b, c)), meet(meet(a, b), c)},
			{"meet of a union", meet(a, union(b, c)), union(meet(a, b), meet(a, c))},
			{"union of a meet", union(a, meet(b, c)), meet(union(a, b), union(a, c))},
			{"takes up", union(a, meet(a, b)), a},
			{"takes down", meet(a, union(a, b)), a},
			{"none", union(a, none), a},
			{"whole", meet(a, whole), a},
			{"with its rest", union(a, minus(whole, a)), whole},
			{"apart from its rest", meet(a, minus(whole, a)), none},
			{"rest of the rest", minus(c, minus(c, a)), meet(a, c)},
			{"De Morgan, union", minus(c, union(a, b)), meet(minus(c, a), minus(c, b))},
			{"De Morgan, meet", minus(c, meet(a, b)), union(minus(c, a), minus(c, b))},
		}
		for _, w := range laws {
			if w.left != w.right {
				t.Fatalf("%s: of %s; %s; %s: %s, %s", w.name, bits.Text(a), bits.Text(b), bits.Text(c), bits.Text(w.left), bits.Text(w.right))
			}
		}
		if bits.Sub(a, b) != (meet(a, b) == a) || bits.Sub(a, b) != (union(a, b) == b) || bits.Sub(a, b) != (minus(a, b) == none) {
			t.Fatalf("Sub of %s; %s", bits.Text(a), bits.Text(b))
		}
		if bits.Count(union(a, b))+bits.Count(meet(a, b)) != bits.Count(a)+bits.Count(b) {
			t.Fatalf("Counts of %s; %s", bits.Text(a), bits.Text(b))
		}
	})
}

// TestInUnion: P5.5, what is in the union is in one of both, and likewise of the others.
func TestInUnion(t *testing.T) {
	l := samples()
	for i, p := range l {
		a, b := p.row(), l[(i*7+3)%len(l)].row()
		union, meet, minus := bits.Union(a, b), bits.Meet(a, b), bits.Minus(a, b)
		for n := range api.MaxForms {
			x, y := bits.Has(a, n), bits.Has(b, n)
			if bits.Has(union, n) != (x || y) || bits.Has(meet, n) != (x && y) || bits.Has(minus, n) != (x && !y) {
				t.Errorf("sample %d: at %d", i, n)
			}
		}
	}
}

// TestCompareOrders: P5.5, Compare is an order of all sets: turned, of equal ones alone 0, and handed on.
func TestCompareOrders(t *testing.T) {
	threes(func(a, b, c api.Bits) {
		x, y, z := bits.Compare(a, b), bits.Compare(b, c), bits.Compare(a, c)
		if bits.Compare(b, a) != -x || (x == 0) != (a == b) {
			t.Fatalf("Compare of %s; %s: %d", bits.Text(a), bits.Text(b), x)
		}
		if x <= 0 && y <= 0 && z != min(x, y) {
			t.Fatalf("Compare of %s; %s; %s: %d, %d, %d", bits.Text(a), bits.Text(b), bits.Text(c), x, y, z)
		}
	})
}

// TestRoundTrips: P5.5, List, Of, Next, All, Text and Parse tell the same numbers of a set.
func TestRoundTrips(t *testing.T) {
	for i, p := range samples() {
		b := p.row()
		if c, e := bits.Of(bits.List(b)...); c != b || e != api.OK {
			t.Errorf("sample %d: Of its list", i)
		}
		var l []int
		for n, ok := bits.Next(b, -1); ok; n, ok = bits.Next(b, n+1) {
			l = append(l, n)
		}
		if !slices.Equal(l, slices.Collect(bits.All(b))) || len(l) != bits.Count(b) {
			t.Errorf("sample %d: by Next %v", i, l)
		}
		c := b
		for _, n := range l {
			c = bits.Drop(c, n)
		}
		if c != (api.Bits{}) {
			t.Errorf("sample %d: all dropped: %v", i, c)
		}
		for _, n := range l {
			c, _ = bits.Put(c, n)
		}
		if c != b {
			t.Errorf("sample %d: all put: %v", i, c)
		}
	}
}
