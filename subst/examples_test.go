package subst_test

import "testing"

// TestExamplePut is the chapter's example 1.
func TestExamplePut(t *testing.T) {
	puts(t, "p -> q", "q -> p", "p by q", "q by p")
	puts(t, "p", "p & p", "p by p & p")
}

// TestExampleMatch is the chapter's example 2.
func TestExampleMatch(t *testing.T) {
	matches(t, "p -> p", "q -> q", "p by q")
	matchesNot(t, "p -> p", "q -> r")
	matches(t, "p & q", "(r -> r) & p", "p by r -> r", "q by p")
}

// TestExampleSimple is the chapter's example 3.
func TestExampleSimple(t *testing.T) {
	simple(t, "p & (q -> q)", "p")
	simple(t, "(p | ~~true) -> q", "q")
	replaces(t, "~p -> ~p", "~p", "q", "q -> q")
}
