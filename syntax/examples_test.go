package syntax_test

import (
	"slices"
	"strings"
	"testing"

	"dictum/api"
	"dictum/formula"
	"dictum/syntax"
)

// TestExampleNumbers is the chapter's example 1.
func TestExampleNumbers(t *testing.T) {
	x := formula.New()
	for _, c := range []struct {
		text string
		id   int
	}{{"p -> q & p", 3}, {"~p", 5}, {"p <-> q", 8}} {
		if id := parsed(t, x, c.text); id != c.id {
			t.Errorf("%s: %d", c.text, id)
		}
	}
	want := []api.Node{atom("p"), atom("q"), join(api.KAnd, 1, 0), join(api.KImp, 0, 2), bot(), join(api.KImp, 0, 4), join(api.KImp, 0, 1), join(api.KImp, 1, 0), join(api.KAnd, 6, 7)}
	if !slices.Equal(x.Rows(), want) {
		t.Error(x.Rows())
	}
	prints(t, x, 8, "(p -> q) & (q -> p)")
}

// TestExampleFaults is the chapter's example 2.
func TestExampleFaults(t *testing.T) {
	x := formula.New()
	refuses(t, x, "p q", api.ErrParse, 2)
	refuses(t, x, "p &", api.ErrParse, 3)
	refuses(t, x, "(p", api.ErrParse, 2)
	refuses(t, x, "p & & $", api.ErrParse, 4)
	refuses(t, x, "p $", api.ErrParse, 2)
	refuses(t, x, "let", api.ErrParse, 0)
	parses(t, "true", 1, bot(), join(api.KImp, 0, 0))
}

// TestExampleTooBig is the chapter's example 3.
func TestExampleTooBig(t *testing.T) {
	s := strings.Repeat("p & ", 256) + "p"
	refuses(t, formula.New(), s, api.ErrTooBig, len(s)-1)
}

// TestExampleTakeAndPrint is the chapter's example 4.
func TestExampleTakeAndPrint(t *testing.T) {
	x := formula.New()
	id, n, f := syntax.Take(x, scan(t, "p & q, r"))
	if id != 2 || n != 3 || f != (api.Fault{}) {
		t.Error(id, n, f)
	}
	if !slices.Equal(x.Rows(), []api.Node{atom("p"), atom("q"), join(api.KAnd, 0, 1)}) {
		t.Error(x.Rows())
	}
	for _, s := range []string{"~(p -> q)", "(p -> q) -> r", "p & (q & r)"} {
		prints(t, x, parsed(t, x, s), s)
	}
}
