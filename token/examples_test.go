package token_test

import (
	"testing"

	"dictum/api"
	"dictum/token"
)

// TestExampleTokens is the chapter's example 1.
func TestExampleTokens(t *testing.T) {
	cuts(t, "p -> q # x", name("p"), sign("->"), name("q"))
	cuts(t, "¬p∨⊥", sign("~"), name("p"), sign("|"), name("false"))
	cuts(t, "⊤p", name("true"), name("p"))
}

// TestExampleFaults is the chapter's example 2.
func TestExampleFaults(t *testing.T) {
	for _, s := range []string{"007", "1a", "1000000000"} {
		faults(t, s, api.ErrNumber, 0)
	}
	for _, s := range []string{"-", "<", "é", `\`} {
		faults(t, s, api.ErrToken, 0)
	}
	faults(t, "p |-> q", api.ErrToken, 4)
	cuts(t, "p |-", name("p"), sign("|-"))
}

// TestExampleWriteAndName is the chapter's example 3.
func TestExampleWriteAndName(t *testing.T) {
	if s, e := token.Write(number(-1)); s != "" || e != api.ErrArg {
		t.Errorf("%q, error %d", s, e)
	}
	if !token.Name("x'1") {
		t.Error("x'1 is no name")
	}
	for _, s := range []string{"", "1q", "q ", "⊤"} {
		if token.Name(s) {
			t.Errorf("%q is a name", s)
		}
	}
}
