package token_test

import (
	"math"
	"slices"
	"strings"
	"testing"

	"dictum/api"
	"dictum/token"
)

// TestName is P2.3.
func TestName(t *testing.T) {
	for _, s := range []string{"p", "_", "x'1", "true", "false", "A_9'", "Zz", strings.Repeat("n", 31)} {
		if !token.Name(s) {
			t.Errorf("Name(%q): false", s)
		}
	}
	for _, s := range []string{
		"", " ", "1q", "1", "q ", " q", "q\n", "q#", "#q", "q p", "'", "'q", "⊤", "⊥", "q⊤", "⊤q", "~", "~p", "p~", "¬", "p.q", "p-", "é", "pé", "p\xff", "\xff", "p\x00",
		strings.Repeat("n", 32), strings.Repeat("n", 70000), "007",
	} {
		if token.Name(s) {
			t.Errorf("Name(%q): true", s)
		}
	}
}

// TestWrite is P2.4: what Scan can give.
func TestWrite(t *testing.T) {
	list := map[string]api.Token{"": end(), "0": number(0), "7": number(7), "10": number(10), "999999999": number(999999999)}
	for _, s := range []string{"p", "_", "x'1", "true", "false", strings.Repeat("n", 31)} {
		list[s] = name(s)
	}
	for s := range strings.FieldsSeq(allSigns) {
		list[s] = sign(s)
	}
	for want, k := range list {
		for _, at := range []api.Spot{{}, spot(1, 1, 0), spot(-3, math.MinInt, math.MaxInt)} {
			k.At = at
			if s, e := token.Write(k); s != want || e != api.OK {
				t.Errorf("Write(%v): %q, error %d", k, s, e)
			}
		}
	}
}

// unwritable are tokens that Scan cannot give.
func unwritable() []api.Token {
	out := []api.Token{
		{Kind: api.TokenEnd, Text: "p"}, {Kind: api.TokenEnd, Text: " "}, {Kind: api.TokenEnd, Text: "#"}, {Kind: api.TokenEnd, Text: "~"}, {Kind: api.TokenEnd, Text: "-"},
		{Kind: api.TokenEnd, Int: 1}, {Kind: api.TokenEnd, Int: -1}, {Kind: api.TokenEnd, Text: "7", Int: 7}, {Kind: api.TokenEnd, Text: "007"},
		{Kind: api.TokenName, Text: "p", Int: 1}, {Kind: api.TokenName, Text: "p", Int: -1}, {Kind: api.TokenName, Int: 1},
		{Kind: api.TokenInt, Text: "1", Int: 1}, {Kind: api.TokenInt, Text: "p", Int: 1}, {Kind: api.TokenInt, Text: "0"}, {Kind: api.TokenInt, Text: " "}, {Kind: api.TokenInt, Text: "-1", Int: -1},
		{Kind: api.TokenSign, Text: "~", Int: 1}, {Kind: api.TokenSign, Text: "->", Int: -1}, {Kind: api.TokenSign, Int: 3},
	}
	for _, n := range []int{-1, -7, math.MinInt, 1000000000, 1000000001, 9999999999, math.MaxInt} {
		out = append(out, number(n))
	}
	for _, s := range []string{"", "1", "1q", "'", "'q", "q ", " q", "q\n", "q#", "#q", "p q", "~", "p~", "⊤", "⊥", "é", "pé", "p\xff", "\xff", "007", strings.Repeat("n", 32), strings.Repeat("n", 70000)} {
		out = append(out, name(s))
	}
	for _, s := range []string{"", "-", "<", "<-", ">", " ", "~ ", " ~", "~~", "~p", "p", "1", "true", "¬", "∧", "∨", "→", "↔", "⊢", "≤", "⊤", "⊥", "|->", "<=>", "()", "#", "\\", "é", "\xe2", "~\n", "-> ", "->#"} {
		out = append(out, sign(s))
	}
	for _, kind := range []api.TokenKind{-1, 4, 5, 100, math.MinInt, math.MaxInt} {
		out = append(out, api.Token{Kind: kind}, api.Token{Kind: kind, Text: "p"}, api.Token{Kind: kind, Text: "~"}, api.Token{Kind: kind, Text: "7", Int: 7}, api.Token{Kind: kind, Int: 7})
	}
	return out
}

// TestWriteRefused is P2.4.
func TestWriteRefused(t *testing.T) {
	for _, k := range unwritable() {
		if s, e := token.Write(k); s != "" || e != api.ErrArg {
			t.Errorf("Write(%v): %q, error %d", k, s, e)
		}
	}
}

// TestJoin is P2.4.
func TestJoin(t *testing.T) {
	for _, c := range []struct {
		l    []api.Token
		want string
	}{
		{nil, ""},
		{[]api.Token{}, ""},
		{[]api.Token{end()}, ""},
		{[]api.Token{name("p")}, "p"},
		{[]api.Token{name("p"), end()}, "p "},
		{[]api.Token{name("p"), sign("<->"), number(3)}, "p <-> 3"},
		{[]api.Token{sign("|"), sign("->"), sign("<="), sign("="), sign("(")}, "| -> <= = ("},
		{[]api.Token{name("p"), name("q"), number(0), number(7), end()}, "p q 0 7 "},
		{[]api.Token{{Kind: api.TokenName, Text: "p", At: spot(9, -9, 9)}, {Kind: api.TokenEnd, At: spot(-1, 0, 0)}}, "p "},
	} {
		given := slices.Clone(c.l)
		if s, e := token.Join(c.l); s != c.want || e != api.OK {
			t.Errorf("Join(%v): %q, error %d", c.l, s, e)
		}
		if !slices.Equal(given, c.l) {
			t.Errorf("Join changed %v to %v", given, c.l)
		}
	}
}

// TestJoinRefused is P2.4: one that Write refuses at any place, or an end ahead of the last place.
func TestJoinRefused(t *testing.T) {
	refused := func(l ...api.Token) {
		t.Helper()
		if s, e := token.Join(l); s != "" || e != api.ErrArg {
			t.Errorf("Join(%v): %q, error %d", l, s, e)
		}
	}
	for _, k := range unwritable() {
		refused(k)
		refused(k, name("p"))
		refused(name("p"), k)
		refused(name("p"), k, end())
		refused(end(), k)
	}
	refused(end(), end())
	refused(end(), name("p"))
	refused(name("p"), end(), name("q"))
	refused(name("p"), end(), end())
	refused(name("p"), end(), name("q"), end())
}

// TestJoinLength is R7: what stands behind the list's end is nobody's.
func TestJoinLength(t *testing.T) {
	l := []api.Token{name("p"), end(), number(-1)}
	if s, e := token.Join(l[:2]); s != "p " || e != api.OK {
		t.Errorf("%q, error %d", s, e)
	}
}

// TestJoinGreat is THE BOUND: many tokens are joined in a moment.
func TestJoinGreat(t *testing.T) {
	const many = 1 << 20
	s, e := token.Join(slices.Repeat([]api.Token{name("p")}, many))
	if e != api.OK || s != strings.Repeat("p ", many-1)+"p" {
		t.Error(len(s), e)
	}
}
