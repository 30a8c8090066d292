package measure_test

import (
	"testing"

	"dictum/measure"
)

// TestExampleCounts: the chapter's first example.
func TestExampleCounts(t *testing.T) {
	f := made(t, chapter())
	for _, c := range counts() {
		switch c.name {
		case "Size":
			is(t, c, f, 4, 5)
		case "Depth":
			is(t, c, f, 5, 3)
		case "Weight":
			is(t, c, f, 2, 4)
			is(t, c, f, 4, 6)
		case "Grade":
			is(t, c, f, 5, 2)
		}
	}
	atoms(t, f, 5, "p", "q")
	signs(t, f, 4, nil, []string{"p", "q"})
	signs(t, f, 5, []string{"p", "q"}, nil)
}

// TestExampleLess: the chapter's second example.
func TestExampleLess(t *testing.T) {
	for _, c := range []struct {
		a, b []int
		is   bool
	}{
		{[]int{3, 3, 1}, []int{4}, true},
		{[]int{4}, []int{4}, false},
		{[]int{4, 1}, []int{4}, false},
		{[]int{}, []int{0}, true},
		{[]int{2, 5}, []int{5, 3}, true},
	} {
		if measure.Less(c.a, c.b) != c.is {
			t.Errorf("Less(%v, %v) is not %v", c.a, c.b, c.is)
		}
	}
}

// TestExampleOccurs: the chapter's third example.
func TestExampleOccurs(t *testing.T) {
	f := made(t, chapter())
	occurs(t, f, 0, 5, 2, 0)
	if measure.Within(f, 3, 2) {
		t.Error("Within(3, 2): true")
	}
}
