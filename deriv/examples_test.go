package deriv_test

import (
	"testing"

	"dictum/api"
	"dictum/deriv"
)

// TestExample1: the chapter's first example.
func TestExample1(t *testing.T) {
	x := example(t)
	steps := []api.Step{proved(seq(0, 0), api.RuleId, 0), proved(seq(3, 0), api.RuleOrR1, 3, 0)}
	right(t, x, steps...)
	prints(t, x, "0: p |- p; proved id p\n1: p |- p | q; proved orr1 p | q / 0\n", steps...)
	if n, e := deriv.Height(x, steps); n != 2 || e != api.OK {
		t.Errorf("Height: %d, error %d", n, e)
	}
}

// TestExample2: the chapter's second example.
func TestExample2(t *testing.T) {
	x := example(t)
	one, two := stuck(seq(0)), stuck(seq(1))
	right(t, x, one, two, stuck(seq(3), 0, 1))
	wrong(t, x, one, two, stuck(seq(3), 1, 0))
}

// TestExample3: the chapter's third example.
func TestExample3(t *testing.T) {
	x := example(t)
	wrong(t, x, proved(seq(0, 0), api.RuleId, 0, 0))
	wrong(t, x, stuck(seq(0), 0))
	wrong(t, x)
}
