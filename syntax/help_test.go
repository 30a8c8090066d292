package syntax_test

import (
	"slices"
	"strconv"
	"strings"
	"testing"

	"dictum/api"
	"dictum/formula"
	"dictum/syntax"
	"dictum/token"
)

func name(s string) api.Token { return api.Token{Kind: api.TokenName, Text: s} }
func sign(s string) api.Token { return api.Token{Kind: api.TokenSign, Text: s} }

func atom(name string) api.Node { return api.Node{Kind: api.KAtom, Name: name} }

func bot() api.Node { return api.Node{Kind: api.KBot} }

func join(k api.Kind, l, r int) api.Node { return api.Node{Kind: k, L: l, R: r} }

// made is the table of rows that are one.
func made(t *testing.T, rows ...api.Node) *formula.Table {
	t.Helper()
	x, e := formula.From(rows)
	if e != api.OK {
		t.Fatalf("From(%v): error %d", rows, e)
	}
	return x
}

// crowded is a table of p, q, false and atoms, with room for so many rows.
func crowded(t *testing.T, room int) *formula.Table {
	t.Helper()
	rows := []api.Node{atom("p"), atom("q"), bot()}
	for i := len(rows); i < api.MaxForms-room; i++ {
		rows = append(rows, atom("a"+strconv.Itoa(i)))
	}
	return made(t, rows...)
}

// scan are the tokens of a text that has no fault.
func scan(t *testing.T, s string) []api.Token {
	t.Helper()
	l, f := token.Scan(s)
	if f.Code != api.OK {
		t.Fatalf("Scan(%q): fault %v", s, f)
	}
	return l
}

// parses asks that an empty table has just these rows when the text is read, the last one or that of the number told last being the formula.
func parses(t *testing.T, s string, id int, rows ...api.Node) {
	t.Helper()
	x := formula.New()
	if got, f := syntax.Parse(x, s); got != id || f != (api.Fault{}) {
		t.Errorf("Parse(%q): %d, fault %v, not %d", s, got, f, id)
	}
	if !slices.Equal(x.Rows(), rows) {
		t.Errorf("Parse(%q): rows %v, not %v", s, x.Rows(), rows)
	}
}

// refuses asks for a fault at the spot of that byte, and for a table that is as it was.
func refuses(t *testing.T, x *formula.Table, s string, code api.Errno, off int) {
	t.Helper()
	fails(t, x, s, api.Fault{Code: code, At: token.At(s, off)})
}

// fails asks for that fault, and for a table that is as it was.
func fails(t *testing.T, x *formula.Table, s string, want api.Fault) {
	t.Helper()
	rows := x.Rows()
	if id, f := syntax.Parse(x, s); id != 0 || f != want {
		t.Errorf("Parse(%.60q): %d, fault %v, not %v", s, id, f, want)
	}
	if !slices.Equal(x.Rows(), rows) {
		t.Errorf("Parse(%.60q) has changed the table", s)
	}
}

// prints asks for a formula's text.
func prints(t *testing.T, x *formula.Table, id int, want string) {
	t.Helper()
	if s, e := syntax.Print(x, id); s != want || e != api.OK {
		t.Errorf("Print(%d): %.80q, error %d, not %.80q", id, s, e, want)
	}
}

// spread is a list of tokens, each at a spot of its own that is no text's.
func spread(l ...api.Token) []api.Token {
	out := slices.Clone(l)
	for i := range out {
		out[i].At = api.Spot{Line: 100 + i, Col: 200 + i, Off: 300 + i}
	}
	return out
}

// takes asks for the fault, or the number of tokens, of Take, and that neither the list nor, with a fault, the table is changed.
func takes(t *testing.T, x *formula.Table, l []api.Token, size int, want api.Fault) int {
	t.Helper()
	rows, list := x.Rows(), slices.Clone(l)
	id, n, f := syntax.Take(x, l)
	if n != size || f != want || f.Code != api.OK && id != 0 {
		t.Errorf("Take(%.200q): %d, %d tokens, fault %v, not %d tokens, fault %v", texts(l), id, n, f, size, want)
	}
	if !slices.Equal(l, list) {
		t.Errorf("Take(%.200q) has changed its list", texts(list))
	}
	if f.Code != api.OK && !slices.Equal(x.Rows(), rows) {
		t.Errorf("Take(%.200q) has changed the table", texts(list))
	}
	return id
}

// texts are the tokens' texts, to be told.
func texts(l []api.Token) string {
	var out []string
	for _, k := range l {
		out = append(out, k.Text)
	}
	return strings.Join(out, " ")
}

// parsed is the number of a text that is a formula.
func parsed(t *testing.T, x *formula.Table, s string) int {
	t.Helper()
	id, f := syntax.Parse(x, s)
	if f != (api.Fault{}) {
		t.Fatalf("Parse(%.60q): fault %v", s, f)
	}
	return id
}
