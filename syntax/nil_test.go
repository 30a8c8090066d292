package syntax_test

import (
	"strings"
	"testing"

	"dictum/api"
	"dictum/formula"
	"dictum/syntax"
)

// unmade are tables that no call made.
func unmade() map[string]*formula.Table {
	var declared formula.Table
	return map[string]*formula.Table{"nil": nil, "zero": {}, "declared": &declared}
}

// TestUnmade: R1, every call is refused with ErrNil, whatever else is wrong, and makes no table of it.
func TestUnmade(t *testing.T) {
	for what, x := range unmade() {
		want := api.Fault{Code: api.ErrNil}
		for _, s := range []string{"", "p", "p -> q", "p &", "$", "p $", "let", strings.Repeat("p ", 513), strings.Repeat("(", 1025)} {
			if id, f := syntax.Parse(x, s); id != 0 || f != want {
				t.Errorf("%s: Parse(%.20q): %d, fault %v", what, s, id, f)
			}
		}
		for _, l := range [][]api.Token{nil, {}, {name("p")}, spread(name("p"), sign("&")), spread(sign(")")), spread(many(513, name("p"))...)} {
			if id, n, f := syntax.Take(x, l); id != 0 || n != 0 || f != want {
				t.Errorf("%s: Take(%.20q): %d, %d, fault %v", what, texts(l), id, n, f)
			}
		}
		for _, id := range []int{-1, 0, 1, api.MaxForms} {
			if s, e := syntax.Print(x, id); s != "" || e != api.ErrNil {
				t.Errorf("%s: Print(%d): %q, error %d", what, id, s, e)
			}
		}
		if _, e := x.Bot(); e != api.ErrNil || x.Len() != 0 {
			t.Errorf("%s has become a table: error %d", what, e)
		}
	}
}

// TestMadeWithoutRows: R1, a table without rows is no table that no call made.
func TestMadeWithoutRows(t *testing.T) {
	cut := made(t, atom("p"))
	cut.Cut(0)
	for what, x := range map[string]*formula.Table{"New": formula.New(), "From": made(t), "Copy": formula.New().Copy(), "Cut": cut} {
		if s, e := syntax.Print(x, 0); s != "" || e != api.ErrForm {
			t.Errorf("%s: Print: %q, error %d", what, s, e)
		}
		refuses(t, x, "", api.ErrParse, 0)
		takes(t, x, nil, 0, api.Fault{Code: api.ErrParse})
		if id := parsed(t, x, "q"); id != 0 {
			t.Errorf("%s: %d", what, id)
		}
	}
}
