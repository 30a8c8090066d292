package syntax_test

import (
	"math/rand/v2"
	"slices"
	"strings"
	"testing"

	"dictum/api"
	"dictum/formula"
	"dictum/syntax"
)

// at is a fault at the spot of a list's token.
func at(code api.Errno, l []api.Token, i int) api.Fault {
	return api.Fault{Code: code, At: l[i].At}
}

// TestTake is P4.3: the formula, as long as may be, and how many tokens it has; what stands behind is not looked at.
func TestTake(t *testing.T) {
	for s, size := range map[string]int{
		"p":                   1,
		"p, q":                1,
		"p q":                 1,
		"p ~ q":               1,
		"p ( q )":             1,
		"p )":                 1,
		"p let":               1,
		"p 7":                 1,
		"p |- q":              1,
		"p => q":              1,
		"true false":          1,
		"~p & q, r":           4,
		"p -> q -> r |- s":    5,
		"(p) q":               3,
		"(p & q) | r)":        7,
		"p <-> q <-> r = s":   5,
		"p & q | r -> s : p":  7,
		"((p)) ((q))":         5,
		"p . &":               1,
		"⊥ ↔ ¬⊤ ⊢":            4,
		"p ; ( ( ( ~ let 0 7": 1,
	} {
		x, y := formula.New(), formula.New()
		l := scan(t, s)
		id := takes(t, x, l, size, api.Fault{})
		want, e := plainPut(y, l[:size])
		if id != want || e != api.OK || !slices.Equal(x.Rows(), y.Rows()) {
			t.Errorf("Take(%q): %d, rows %v, not %d, %v", s, id, x.Rows(), want, y.Rows())
		}
		takes(t, formula.New(), l[:size], size, api.Fault{})
	}
}

// TestTakeEnds is P4.3: where the list ends early, ErrParse without a spot; where an end stands, at that.
func TestTakeEnds(t *testing.T) {
	x := made(t, atom("q"))
	takes(t, x, nil, 0, api.Fault{Code: api.ErrParse})
	takes(t, x, []api.Token{}, 0, api.Fault{Code: api.ErrParse})
	for _, s := range slices.Concat(wanted, enclosed) {
		l := scan(t, s)
		takes(t, x, l, 0, at(api.ErrParse, l, len(l)-1))
		takes(t, x, l[:len(l)-1], 0, api.Fault{Code: api.ErrParse})
	}
	l := spread(name("p"), sign("&"), api.Token{}, name("q"))
	takes(t, x, l, 0, at(api.ErrParse, l, 2))
	takes(t, x, spread(name("p"), api.Token{}, sign("&")), 1, api.Fault{})
	l = spread(api.Token{}, name("p"))
	takes(t, x, l, 0, at(api.ErrParse, l, 0))
}

// TestTakeRoomBehind: R7, of a list its length alone counts.
func TestTakeRoomBehind(t *testing.T) {
	l := spread(name("p"), sign("&"), name("q"))
	takes(t, formula.New(), l[:1], 1, api.Fault{})
	takes(t, formula.New(), l[:2], 0, api.Fault{Code: api.ErrParse})
}

// odd are tokens that no text yields, or that begin and go on no formula.
func odd() []api.Token {
	return []api.Token{
		{Kind: -1}, {Kind: -1, Text: "p"}, {Kind: 4, Text: "p"}, {Kind: 4, Text: "~"}, {Kind: 9, Text: "("}, {Kind: 99},
		{Kind: api.TokenEnd, Text: "p"}, {Kind: api.TokenEnd, Text: "~"}, {Kind: api.TokenEnd, Int: 3},
		{Kind: api.TokenInt, Text: "p"}, {Kind: api.TokenInt, Int: -5}, {Kind: api.TokenInt, Text: "~"},
		sign(""), sign("p"), sign("true"), sign("¬"), sign("∧"), sign(" & "), sign("&&"), sign("(("), sign("()"), sign("~ "), sign("-"), sign("\xff"), sign("|-"), sign("<="), sign("[7]"),
	}
}

// badNames are names, and so counted, that are no names of formulas.
func badNames() []api.Token {
	var out []api.Token
	for _, s := range []string{"", "1", "_", "_p", "p q", " p", "p ", "~", "&", "->", "(", ")", "⊤", "⊥", "é", "\xff", "p\x00", "let", "fst", "in", "true ", "7", strings.Repeat("n", 32)} {
		out = append(out, name(s))
	}
	return out
}

// TestTakeByHand is P4.3: kinds and texts that no text yields.
func TestTakeByHand(t *testing.T) {
	x := made(t, atom("q"))
	binary := []api.Token{sign("&"), sign("|"), sign("->"), sign("<->"), sign(")")}
	for _, k := range slices.Concat(odd(), badNames(), binary) {
		for _, ahead := range wanted {
			a := scan(t, ahead)
			l := spread(append(a[:len(a)-1], k, name("p"))...)
			takes(t, x, l, 0, at(api.ErrParse, l, len(l)-2))
		}
	}
	for _, k := range slices.Concat(odd(), badNames(), []api.Token{name("p"), name("true"), sign("~"), sign("(")}) {
		for _, ahead := range enclosed {
			a := scan(t, ahead)
			l := spread(append(a[:len(a)-1], k, sign(")"))...)
			takes(t, x, l, 0, at(api.ErrParse, l, len(l)-2))
		}
		for _, ahead := range done {
			a := scan(t, ahead)
			l := spread(append(a[:len(a)-1], k, sign("&"))...)
			takes(t, formula.New(), l, len(l)-2, api.Fault{})
		}
	}
}

// TestTakeUnused: a name's number and a sign's number are not looked at, nor are spots.
func TestTakeUnused(t *testing.T) {
	x := formula.New()
	l := []api.Token{{Kind: api.TokenSign, Text: "~", Int: 5, At: api.Spot{Line: -1}}, {Kind: api.TokenName, Text: "p", Int: -1}}
	if id := takes(t, x, l, 2, api.Fault{}); id != 2 {
		t.Error(id)
	}
}

// TestTakeTooBig is P4.3: the first fault as the tokens are gone through; of one token ErrTooBig ahead of ErrParse.
func TestTakeTooBig(t *testing.T) {
	x := made(t, bot())
	nots := many(512, sign("~"))
	full := slices.Concat(many(511, sign("~")), []api.Token{name("p")})
	for _, k := range append(badNames(), name("p"), name("true"), sign("~"), sign("&"), sign("<->")) {
		l := spread(slices.Concat(nots, []api.Token{k, name("p")})...)
		takes(t, x, l, 0, at(api.ErrTooBig, l, 512))
		l = spread(slices.Concat(nots, []api.Token{sign("("), sign("("), k})...)
		takes(t, x, l, 0, at(api.ErrTooBig, l, 514))
		l = spread(slices.Concat([]api.Token{sign("(")}, full, []api.Token{k})...)
		takes(t, x, l, 0, at(api.ErrTooBig, l, 513))
	}
	for _, k := range append(odd(), sign(")"), sign(",")) {
		l := spread(slices.Concat(nots, []api.Token{k}, many(9, name("p")))...)
		takes(t, x, l, 0, at(api.ErrParse, l, 512))
		l = spread(slices.Concat([]api.Token{sign(")")}, many(513, k))...)
		takes(t, x, l, 0, at(api.ErrParse, l, 0))
	}
	for _, s := range []string{"&", "|", "->", "<->"} {
		l := spread(slices.Concat(full, []api.Token{sign(s), sign(")")})...)
		takes(t, x, l, 0, at(api.ErrTooBig, l, 512))
	}
	for _, k := range slices.Concat(odd(), badNames(), []api.Token{name("p"), sign("~"), sign("("), sign(")"), {}}) {
		l := spread(slices.Concat(full, many(600, k))...)
		takes(t, made(t, bot()), l, 512, api.Fault{})
	}
	l := spread(slices.Concat(nots[:100], []api.Token{sign("&")}, nots, nots)...)
	takes(t, x, l, 0, at(api.ErrParse, l, 100))
	l = spread(nots...)
	takes(t, x, l, 0, api.Fault{Code: api.ErrParse})
	l = spread(many(1<<20, sign("~"))...)
	takes(t, x, l, 0, at(api.ErrTooBig, l, 512))
	takes(t, crowded(t, 0), l, 0, at(api.ErrTooBig, l, 512))
}

// TestTakeNest is P4.3: the 1025th open parenthesis.
func TestTakeNest(t *testing.T) {
	x := formula.New()
	deep := func(n int) []api.Token {
		return spread(slices.Concat(many(n, sign("(")), []api.Token{name("p")}, many(n, sign(")")), many(9, sign(")")))...)
	}
	takes(t, x, deep(1024), 2049, api.Fault{})
	l := deep(1025)
	takes(t, x, l, 0, at(api.ErrParse, l, 1024))
	l = spread(many(1<<20, sign("("))...)
	takes(t, x, l, 0, at(api.ErrParse, l, 1024))
	takes(t, x, l[:1024], 0, api.Fault{Code: api.ErrParse})
}

// TestTakeRoom is P4.3: a table that is too full is told last, and is as it was.
func TestTakeRoom(t *testing.T) {
	l := scan(t, "x & ~p, q")
	for room := range 3 {
		takes(t, crowded(t, room), l, 0, api.Fault{Code: api.ErrForms})
	}
	takes(t, crowded(t, 3), l, 4, api.Fault{})
	bad := scan(t, "x & ~ , q")
	takes(t, crowded(t, 0), bad, 0, at(api.ErrParse, bad, 3))
	takes(t, crowded(t, 0), bad[:3], 0, api.Fault{Code: api.ErrParse})
	takes(t, crowded(t, 0), scan(t, "~~false"), 0, api.Fault{Code: api.ErrForms})
	takes(t, crowded(t, 0), scan(t, "p x"), 1, api.Fault{})
}

// sameTake holds Take against the plain one.
func sameTake(t *testing.T, x *formula.Table, l []api.Token) {
	t.Helper()
	wantID, size, want, rows := plainTake(x, l)
	id, n, f := syntax.Take(x, l)
	if id != wantID || n != size || f != want || !slices.Equal(x.Rows(), rows) {
		t.Fatalf("Take(%q): %d, %d, fault %v, not %d, %d, fault %v", texts(l), id, n, f, wantID, size, want)
	}
}

// TestTakeAllShortLists holds Take against the plain one in every list of up to five tokens.
func TestTakeAllShortLists(t *testing.T) {
	pieces := []api.Token{name("p"), name("false"), name("in"), sign("~"), sign("&"), sign("|"), sign("->"), sign("<->"), sign("("), sign(")"), sign(","), {}}
	x := formula.New()
	var walk func(l []api.Token, left int)
	walk = func(l []api.Token, left int) {
		x.Cut(0)
		sameTake(t, x, l)
		if left > 0 {
			for _, k := range pieces {
				k.At = api.Spot{Line: 1, Col: len(l) + 1, Off: 2 * len(l)}
				walk(append(l, k), left-1)
			}
		}
	}
	walk(make([]api.Token, 0, 5), 5)
}

// TestTakeByChance holds Take against the plain one in long lists by chance, that are mostly formulas, round the limits.
func TestTakeByChance(t *testing.T) {
	chance := rand.New(rand.NewPCG(4, 3))
	for range 800 {
		l := spread(slices.Concat(someFormula(chance, 300+chance.IntN(500)), someFormula(chance, 5))...)
		if chance.IntN(2) == 0 {
			l[chance.IntN(len(l))].Text = ")"
		}
		sameTake(t, crowded(t, chance.IntN(800)), l)
	}
}

// someFormula are tokens that are a formula of about so many.
func someFormula(chance *rand.Rand, size int) []api.Token {
	words := []string{"p", "q", "r", "true", "false"}
	signs := []string{"&", "|", "->", "<->"}
	var out []api.Token
	open := 0
	for {
		switch n := chance.IntN(10); {
		case n < 2:
			out = append(out, sign("~"))
			continue
		case n < 4 && len(out) < size:
			out = append(out, sign("("))
			open++
			continue
		}
		out = append(out, name(words[chance.IntN(len(words))]))
		for open > 0 && (chance.IntN(3) == 0 || len(out) >= size) {
			out = append(out, sign(")"))
			open--
		}
		if len(out) >= size {
			return out
		}
		out = append(out, sign(signs[chance.IntN(len(signs))]))
	}
}
