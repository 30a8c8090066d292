package syntax_test

import (
	"slices"
	"strings"
	"testing"

	"dictum/api"
	"dictum/formula"
	"dictum/syntax"
	"dictum/token"
)

// TestParseForms is P4.2: of each form the rows, in their order.
func TestParseForms(t *testing.T) {
	p, q, r := atom("p"), atom("q"), atom("r")
	parses(t, "p", 0, p)
	parses(t, "false", 0, bot())
	parses(t, "⊥", 0, bot())
	parses(t, "true", 1, bot(), join(api.KImp, 0, 0))
	parses(t, "⊤", 1, bot(), join(api.KImp, 0, 0))
	parses(t, "~p", 2, p, bot(), join(api.KImp, 0, 1))
	parses(t, "~~p", 3, p, bot(), join(api.KImp, 0, 1), join(api.KImp, 2, 1))
	parses(t, "~false", 1, bot(), join(api.KImp, 0, 0))
	parses(t, "~true", 2, bot(), join(api.KImp, 0, 0), join(api.KImp, 1, 0))
	parses(t, "q & p", 2, q, p, join(api.KAnd, 0, 1))
	parses(t, "q | p", 2, q, p, join(api.KOr, 0, 1))
	parses(t, "q -> p", 2, q, p, join(api.KImp, 0, 1))
	parses(t, "q <-> p", 4, q, p, join(api.KImp, 0, 1), join(api.KImp, 1, 0), join(api.KAnd, 2, 3))
	parses(t, "p <-> p", 2, p, join(api.KImp, 0, 0), join(api.KAnd, 1, 1))
	parses(t, "p & p", 1, p, join(api.KAnd, 0, 0))
	parses(t, "p & q & r", 4, p, q, join(api.KAnd, 0, 1), r, join(api.KAnd, 2, 3))
	parses(t, "p | q | r", 4, p, q, join(api.KOr, 0, 1), r, join(api.KOr, 2, 3))
	parses(t, "p -> q -> r", 4, p, q, r, join(api.KImp, 1, 2), join(api.KImp, 0, 3))
	parses(t, "p <-> q <-> r", 8, p, q, r, join(api.KImp, 1, 2), join(api.KImp, 2, 1), join(api.KAnd, 3, 4), join(api.KImp, 0, 5), join(api.KImp, 5, 0), join(api.KAnd, 6, 7))
	parses(t, "p & (q & r)", 4, p, q, r, join(api.KAnd, 1, 2), join(api.KAnd, 0, 3))
	parses(t, "p | (q | r)", 4, p, q, r, join(api.KOr, 1, 2), join(api.KOr, 0, 3))
	parses(t, "(p -> q) -> r", 4, p, q, join(api.KImp, 0, 1), r, join(api.KImp, 2, 3))
	parses(t, "((p))", 0, p)
}

// TestParseBinding is P4.2: which sign binds closer, each two in both orders.
func TestParseBinding(t *testing.T) {
	for s, same := range map[string]string{
		"~p & q":               "(~p) & q",
		"p & ~q":               "p & (~q)",
		"~p | q":               "(~p) | q",
		"~p -> q":              "(~p) -> q",
		"~p <-> q":             "(~p) <-> q",
		"p & q | r":            "(p & q) | r",
		"p | q & r":            "p | (q & r)",
		"p & q -> r":           "(p & q) -> r",
		"p -> q & r":           "p -> (q & r)",
		"p & q <-> r":          "(p & q) <-> r",
		"p <-> q & r":          "p <-> (q & r)",
		"p | q -> r":           "(p | q) -> r",
		"p -> q | r":           "p -> (q | r)",
		"p | q <-> r":          "(p | q) <-> r",
		"p <-> q | r":          "p <-> (q | r)",
		"p -> q <-> r":         "(p -> q) <-> r",
		"p <-> q -> r":         "p <-> (q -> r)",
		"p <-> q <-> r":        "p <-> (q <-> r)",
		"p -> q -> r":          "p -> (q -> r)",
		"p | q | r":            "(p | q) | r",
		"p & q & r":            "(p & q) & r",
		"~~p":                  "~(~p)",
		"p|q&r->s<->~p":        "((p | (q & r)) -> s) <-> (~p)",
		"¬p∧q∨r→s↔⊥":           "((((~p) & q) | r) -> s) <-> false",
		"p # & q\n\t-> #\r\nq": "p -> q",
	} {
		x := formula.New()
		if a, b := parsed(t, x, s), parsed(t, x, same); a != b {
			t.Errorf("%q is no %q", s, same)
		}
	}
}

// TestParseNames is P4.2: names of layer 3, and no others.
func TestParseNames(t *testing.T) {
	for _, s := range []string{"p", "Z", "x'1", "a_b", "True", "FALSE", "lets", "truE", "i", "o", "fun'", "inn", strings.Repeat("n", 31)} {
		parses(t, s, 0, atom(s))
		parses(t, " ("+s+")#", 0, atom(s))
	}
	x := formula.New()
	for _, s := range []string{"abort", "case", "fst", "fun", "in", "inl", "inr", "let", "of", "snd", "_", "_p", "_1", "__", "_'"} {
		refuses(t, x, s, api.ErrParse, 0)
		refuses(t, x, "p & "+s, api.ErrParse, 4)
		refuses(t, x, "~"+s+" & $", api.ErrParse, 1)
		refuses(t, x, "("+s+")", api.ErrParse, 1)
		refuses(t, x, "p "+s, api.ErrParse, 2)
	}
	refuses(t, x, "p & "+strings.Repeat("n", 32), api.ErrParse, 4)
}

// wanted and done are places in a text: where a formula must go on with a part, and where a part has ended.
var (
	wanted   = []string{"", "~", "(", "p & ", "p | ", "p -> ", "p <-> ", "p & ~", "p -> ((", "(p) | ~~(", "~p & q -> "}
	done     = []string{"p", "~p", "(p)", "p & q", "p | q", "p -> q", "p <-> q", "~(p & q)", "true", "p\n->\n⊥"}
	enclosed = []string{"(p", "(~p", "((p)", "p & (q", "(p | q", "(p -> q", "p -> (p <-> q", "~(p & q", "(true"}
)

// TestParseSigns is P4.2: every sign, a number, a reserved word and the end in every place where no formula can go on with it.
func TestParseSigns(t *testing.T) {
	x := made(t, atom("q"), bot())
	others := strings.Fields("|- <= => [ ] { } , . : ; = / 0 7 $ - < \xff 007 1a")
	binary := strings.Fields("& | -> <->")
	behinds := []string{"", " ", " p", " $", " )", " & &"}
	for _, ahead := range wanted {
		for _, s := range slices.Concat(others, binary, []string{")", "let", "_"}) {
			for _, behind := range behinds {
				refuses(t, x, ahead+" "+s+behind, api.ErrParse, len(ahead)+1)
			}
		}
		refuses(t, x, ahead, api.ErrParse, len(ahead))
		refuses(t, x, ahead+" # end", api.ErrParse, len(ahead)+6)
	}
	for _, ahead := range slices.Concat(done, enclosed) {
		for _, s := range slices.Concat(others, []string{"~", "(", "p", "q", "true", "false", "let", "⊤", "¬"}) {
			for _, behind := range behinds {
				refuses(t, x, ahead+" "+s+behind, api.ErrParse, len(ahead)+1)
			}
		}
	}
	for _, ahead := range done {
		for _, behind := range behinds {
			refuses(t, x, ahead+" )"+behind, api.ErrParse, len(ahead)+1)
		}
	}
	for _, ahead := range enclosed {
		refuses(t, x, ahead, api.ErrParse, len(ahead))
		refuses(t, x, ahead+"\n\n", api.ErrParse, len(ahead)+2)
	}
}

// TestParseEmpty is P4.2: a text without tokens is no formula, at its end.
func TestParseEmpty(t *testing.T) {
	for _, s := range []string{"", " ", "\n\t\r", "#", "# p\n", "#p"} {
		refuses(t, formula.New(), s, api.ErrParse, len(s))
	}
	fails(t, formula.New(), "", api.Fault{Code: api.ErrParse, At: api.Spot{Line: 1, Col: 1}})
	fails(t, formula.New(), "é\n", api.Fault{Code: api.ErrParse, At: api.Spot{Line: 1, Col: 1}})
	fails(t, formula.New(), "⊤\n∧\n ", api.Fault{Code: api.ErrParse, At: api.Spot{Line: 3, Col: 2, Off: 9}})
}

// TestParseScanFault is P4.2: the fault of Scan is told where it stands ahead of, or at, the token with which no formula can go on, else that token; always as ErrParse.
func TestParseScanFault(t *testing.T) {
	x := made(t, atom("p"))
	long := strings.Repeat("n", 32)
	for _, bad := range []string{"$", "007", "1a", long, "-", "<", "\xff", "é"} {
		refuses(t, x, bad, api.ErrParse, 0)
		refuses(t, x, bad+" p", api.ErrParse, 0)
		refuses(t, x, bad+" & &", api.ErrParse, 0)
		refuses(t, x, "p & "+bad, api.ErrParse, 4)
		refuses(t, x, "p "+bad, api.ErrParse, 2)
		refuses(t, x, "p & q "+bad+" p p", api.ErrParse, 6)
		refuses(t, x, "(p "+bad, api.ErrParse, 3)
		refuses(t, x, "(p) "+bad, api.ErrParse, 4)
		refuses(t, x, "p & & "+bad, api.ErrParse, 4)
		refuses(t, x, "p q "+bad, api.ErrParse, 2)
		refuses(t, x, "p)"+bad, api.ErrParse, 1)
		refuses(t, x, "let "+bad, api.ErrParse, 0)
		refuses(t, x, "p # "+bad+"\n"+bad, api.ErrParse, 5+len(bad))
	}
	refuses(t, x, "p |-> q", api.ErrParse, 2)
}

// TestParseTooBig is P4.2: 512 counted tokens are taken, the 513th is told, wherever else the text is wrong.
func TestParseTooBig(t *testing.T) {
	x := made(t, bot())
	nots := strings.Repeat("~", 511)
	id := parsed(t, x, nots+"p")
	if x.Len() != 513 || id != 512 {
		t.Errorf("number %d of %d", id, x.Len())
	}
	x = made(t, bot())
	refuses(t, x, "~"+nots+"p", api.ErrTooBig, 512)
	refuses(t, x, nots+"pp p", api.ErrTooBig, 514)
	refuses(t, x, nots+"p )", api.ErrParse, 513)
	refuses(t, x, nots+"p let", api.ErrTooBig, 513)
	refuses(t, x, nots+"p ⊤", api.ErrTooBig, 513)
	refuses(t, x, nots+"p\n∧ $", api.ErrTooBig, 513)
	refuses(t, x, nots+"p $ &", api.ErrParse, 513)
	refuses(t, x, nots+"& p", api.ErrTooBig, 513)
	big := strings.Repeat("p & ", 256)
	refuses(t, x, ") "+big+"p", api.ErrTooBig, 1026)
	refuses(t, x, "& "+big+"p", api.ErrTooBig, 1024)
	refuses(t, x, big+"p & & )", api.ErrTooBig, 1024)
	refuses(t, x, big+"p $", api.ErrTooBig, 1024)
	refuses(t, x, "$ "+big+"p", api.ErrParse, 0)
	refuses(t, x, big+"$ p", api.ErrParse, 1024)
	refuses(t, x, big+"( & p", api.ErrTooBig, 1026)
	refuses(t, x, big, api.ErrParse, 1024)
	refuses(t, x, big+")", api.ErrParse, 1024)
	refuses(t, x, strings.Repeat("_ ", 513), api.ErrTooBig, 1024)
	refuses(t, x, strings.Repeat("_ ", 512), api.ErrParse, 0)
	refuses(t, x, strings.Repeat("(", 2000)+big+"p", api.ErrTooBig, 3024)
	refuses(t, crowded(t, 0), big+"p", api.ErrTooBig, 1024)
	refuses(t, x, strings.Repeat("p -> ", 1<<18), api.ErrTooBig, 256*5)
}

// nested is a part within so many parentheses.
func nested(n int, s string) string {
	return strings.Repeat("(", n) + s + strings.Repeat(")", n)
}

// TestParseNest is P4.2: 1024 parentheses may be open at once; with the 1025th no formula can go on.
func TestParseNest(t *testing.T) {
	parses(t, nested(1024, "p"), 0, atom("p"))
	parses(t, nested(1024, "p")+"&"+nested(1024, "p"), 1, atom("p"), join(api.KAnd, 0, 0))
	parses(t, "~"+nested(1024, "~p"), 3, atom("p"), bot(), join(api.KImp, 0, 1), join(api.KImp, 2, 1))
	parses(t, nested(1023, "(p)&(p)"), 1, atom("p"), join(api.KAnd, 0, 0))
	parses(t, nested(1023, "p&(p)"), 1, atom("p"), join(api.KAnd, 0, 0))
	x := formula.New()
	refuses(t, x, nested(1025, "p"), api.ErrParse, 1024)
	refuses(t, x, strings.Repeat("(", 1025), api.ErrParse, 1024)
	refuses(t, x, strings.Repeat("(", 1024), api.ErrParse, 1024)
	refuses(t, x, strings.Repeat("(", 1<<20), api.ErrParse, 1024)
	refuses(t, x, nested(1024, "(p)&p"), api.ErrParse, 1024)
	refuses(t, x, nested(1024, "p&(p)"), api.ErrParse, 1026)
	refuses(t, x, nested(1024, "p")+"&"+nested(1025, "p"), api.ErrParse, 1024+1+1024+1+1024)
	refuses(t, x, strings.Repeat("(", 1025)+"$", api.ErrParse, 1024)
	refuses(t, x, strings.Repeat("(", 1024)+"$", api.ErrParse, 1024)
	refuses(t, x, "p $"+strings.Repeat("(", 1025), api.ErrParse, 2)
	refuses(t, x, strings.Repeat("(", 1024)+"p"+strings.Repeat(")", 1025), api.ErrParse, 1024+1+1024)
}

// TestParseRoom is P4.2: of each formula as many new rows as it needs, some of its parts being there; with less room ErrForms without a spot, and the table as it was.
func TestParseRoom(t *testing.T) {
	for s, need := range map[string]int{
		"p":                            0,
		"x":                            1,
		"true":                         1,
		"~p":                           1,
		"~x":                           2,
		"p & q":                        1,
		"x & p":                        2,
		"p & x":                        2,
		"x | y":                        3,
		"x <-> y":                      5,
		"p <-> q":                      3,
		"p -> (q & x)":                 3,
		"p & q -> ~(p & q)":            3,
		"~p <-> ~p":                    3,
		"x -> y -> z":                  5,
		"true & (x | ~true)":           5,
		nested(1024, "p & q"):          1,
		strings.Repeat("~", 511) + "p": 511,
	} {
		for room := max(0, need-3); room < need; room++ {
			fails(t, crowded(t, room), s, api.Fault{Code: api.ErrForms})
		}
		for room := need; room < need+3; room++ {
			x := crowded(t, room)
			id := parsed(t, x, s)
			if x.Len() != api.MaxForms-room+need {
				t.Errorf("%.20q: %d new rows, not %d", s, x.Len()-api.MaxForms+room, need)
			}
			if room == need && parsed(t, x, s) != id {
				t.Errorf("%.20q in a full table", s)
			}
		}
	}
}

// TestParseFull: R2, in a full table each other fault is told ahead of ErrForms.
func TestParseFull(t *testing.T) {
	x := crowded(t, 0)
	refuses(t, x, "x & y &", api.ErrParse, 7)
	refuses(t, x, "x y", api.ErrParse, 2)
	refuses(t, x, "x $", api.ErrParse, 2)
	refuses(t, x, strings.Repeat("x ", 513), api.ErrTooBig, 1024)
	fails(t, x, "x", api.Fault{Code: api.ErrForms})
	fails(t, x, "p & x", api.Fault{Code: api.ErrForms})
	// Behind a fault the rows that were tried are none: their numbers are given anew.
	y := crowded(t, 1)
	fails(t, y, "x & p", api.Fault{Code: api.ErrForms})
	if _, ok := y.Find(atom("x")); ok {
		t.Error("x is left")
	}
	if id := parsed(t, y, "y"); id != api.MaxForms-1 {
		t.Errorf("y: %d", id)
	}
}

// TestParseApart: R4, tables know nothing of one another, and nothing is kept behind a call that was given up.
func TestParseApart(t *testing.T) {
	x, y := formula.New(), formula.New()
	parsed(t, x, "q & p")
	refuses(t, x, "((((p & ", api.ErrParse, 8)
	if id := parsed(t, y, "p"); id != 0 || x.Len() != 3 || y.Len() != 1 {
		t.Error(id, x.Len(), y.Len())
	}
	if id, f := syntax.Parse(x, "((p))"); id != 1 || f != (api.Fault{}) {
		t.Error(id, f)
	}
}

// sameParse holds Parse against the plain one.
func sameParse(t *testing.T, x *formula.Table, s string) {
	t.Helper()
	wantID, want, rows := plainParse(x, s)
	id, f := syntax.Parse(x, s)
	if id != wantID || f != want || !slices.Equal(x.Rows(), rows) {
		t.Fatalf("Parse(%q): %d, fault %v, not %d, fault %v; %d rows, not %d", s, id, f, wantID, want, x.Len(), len(rows))
	}
}

// TestParseAllShortTexts holds Parse against the plain one in every text of up to five tokens.
func TestParseAllShortTexts(t *testing.T) {
	pieces := strings.Fields("p q true let ~ & | -> <-> ( ) , $")
	x := formula.New()
	var walk func(s string, left int)
	walk = func(s string, left int) {
		x.Cut(0)
		sameParse(t, x, s)
		if left > 0 {
			for _, p := range pieces {
				walk(s+" "+p, left-1)
			}
		}
	}
	walk("", 5)
}

// TestParseWaysToGoOn holds Parse against the plain one in formulas of up to nine tokens: all ways to go on.
func TestParseWaysToGoOn(t *testing.T) {
	x := made(t, atom("q"))
	var walk func(s string, left int, awaited bool, open int)
	walk = func(s string, left int, awaited bool, open int) {
		x.Cut(1)
		sameParse(t, x, s)
		switch {
		case left == 0:
		case awaited:
			walk(s+"~", left-1, true, open)
			walk(s+"(", left-1, true, open+1)
			walk(s+"p", left-1, false, open)
		default:
			for _, sign := range []string{"&", "|", "->", "<->"} {
				walk(s+sign, left-1, true, open)
			}
			if open > 0 {
				walk(s+")", left-1, false, open-1)
			}
		}
	}
	walk("", 9, true, 0)
}

// TestParseSpots is P4.2: a fault's spot is that of layer 2, all of it.
func TestParseSpots(t *testing.T) {
	s := "⊤ ∧ # é\n\t¬ ↔ p"
	_, f := syntax.Parse(formula.New(), s)
	if f != (api.Fault{Code: api.ErrParse, At: api.Spot{Line: 2, Col: 4, Off: 17}}) || f.At != token.At(s, strings.Index(s, "↔")) {
		t.Error(f)
	}
}
