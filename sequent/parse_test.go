package sequent_test

import (
	"slices"
	"strconv"
	"strings"
	"testing"

	"dictum/api"
	"dictum/formula"
	"dictum/sequent"
	"dictum/token"
)

// TestParse: P8.2, the forms of a sequent's text, and which rows an empty table gets, in which order.
func TestParse(t *testing.T) {
	p, q, r := atom("p"), atom("q"), atom("r")
	for _, c := range []struct {
		text string
		want api.Seq
		rows []api.Node
	}{
		{"p", seq(0), []api.Node{p}},
		{"|- p", seq(0), []api.Node{p}},
		{"p |- p", seq(0, 0), []api.Node{p}},
		{"p, p, p |- p", seq(0, 0), []api.Node{p}},
		{"q |- p", seq(1, 0), []api.Node{q, p}},
		{"q, p |- r", seq(2, 0, 1), []api.Node{q, p, r}},
		{"r, q, p, q |- q", seq(1, 0, 1, 2), []api.Node{r, q, p}},
		{"p -> q", seq(2), []api.Node{p, q, join(api.KImp, 0, 1)}},
		{"q -> p |- q", seq(0, 2), []api.Node{q, p, join(api.KImp, 0, 1)}},
		{"~p, (q) |- false", seq(1, 2, 3), []api.Node{p, bot(), join(api.KImp, 0, 1), q}},
		{"true |- true", seq(1, 1), []api.Node{bot(), join(api.KImp, 0, 0)}},
		{"(p | q), r & p |- p | q", seq(2, 2, 4), []api.Node{p, q, join(api.KOr, 0, 1), r, join(api.KAnd, 3, 0)}},
		{"p <-> q |- p", seq(0, 4), []api.Node{p, q, join(api.KImp, 0, 1), join(api.KImp, 1, 0), join(api.KAnd, 2, 3)}},
		{"p,q⊢⊥", seq(2, 0, 1), []api.Node{p, q, bot()}},
		{" # a comment |- r\n p\t,\r\n q # , r\n|-#\nr ", seq(2, 0, 1), []api.Node{p, q, r}},
		{"p|-q", seq(1, 0), []api.Node{p, q}},
	} {
		parses(t, formula.New(), c.text, c.want, c.rows...)
	}
}

// TestParseOldRows: R9, what is a row already is not put again, and new rows stand behind the old ones.
func TestParseOldRows(t *testing.T) {
	x := made(t, atom("r"), atom("q"))
	parses(t, x, "p, q |- p & q", seq(3, 1, 2), atom("r"), atom("q"), atom("p"), join(api.KAnd, 2, 1))
	parses(t, x, "p & q, r |- q", seq(1, 0, 3), atom("r"), atom("q"), atom("p"), join(api.KAnd, 2, 1))
}

// TestParseFaults: P8.2, the first token with which no sequent can go on.
func TestParseFaults(t *testing.T) {
	x := made(t, atom("q"), bot())
	for text, off := range map[string]int{
		"":                   0,
		" ":                  1,
		"# p":                3,
		",":                  0,
		",p |- q":            0,
		"p,, q |- r":         2,
		"p,":                 2,
		"p, ":                3,
		"p, q,":              5,
		"p, q, r":            7,
		"p, q & r)":          8,
		"p, q &":             6,
		"|-":                 2,
		"|- ":                3,
		"|- |- p":            3,
		"|- p, q":            4,
		"|- p |- q":          5,
		"|- p q":             5,
		"|- , p":             3,
		"|- (p":              5,
		"|- (p |- q)":        6,
		"p |-":               4,
		"p |- ,":             5,
		"p |- q,":            6,
		"p |- q, r":          6,
		"p |- q |-":          7,
		"p |- q)":            6,
		"p |- let":           5,
		"p |- 7":             5,
		"p q |- r":           2,
		"p q, |- ,":          2,
		"(p, q) |- r":        2,
		"(p |- q)":           3,
		"p) |- q":            1,
		"p, (q |- r":         6,
		"p => q":             2,
		"p ; q |- r":         2,
		"p . q":              2,
		"let |- p":           0,
		"_p |- p":            0,
		"p, in |- q":         3,
		"p -> |- q":          5,
		"p -> , q |- r":      5,
		"~ |- p":             2,
		"~, p |- p":          1,
		"p <- q":             2,
		"7 |- p":             0,
		"p & & $":            4,
		"p, q $ |- & r":      5,
		"p $":                2,
		"$":                  0,
		"p |- q $":           7,
		"p, $ |- q":          3,
		"p, q $":             5,
		"|- $":               3,
		"p |-> q":            4,
		"p |- q -":           7,
		"p, 007 |- q":        3,
		"p |- 1a":            5,
		"p, |- $":            3,
		"p |- q |- $":        7,
		"é |- p":             0,
		"p \xff |- q":        2,
		"p, q # |- r":        11,
		"p |- # q":           8,
		"\n\n p |-\n ,":      9,
		"⊤ ⊢ ⊢":              8,
		"p, q |- r, s |- p":  9,
		"p & (q, r) |- s":    6,
		"p |- ((q) & r) s":   15,
		"p, ((q |- r)) |- s": 7,
	} {
		refuses(t, x, text, api.ErrParse, off)
	}
	long := strings.Repeat("n", api.MaxName+1)
	refuses(t, x, "p, "+long+" |- q", api.ErrParse, 3)
	refuses(t, x, "p "+long+" |- q", api.ErrParse, 2)
}

// TestParseSpots: P8.2 and R5, a fault's spot is that of layer 2, all of it.
func TestParseSpots(t *testing.T) {
	x := formula.New()
	fails(t, x, "⊤ ∧ p, # é\n\t¬q ⊢ ∨ p", api.Fault{Code: api.ErrParse, At: api.Spot{Line: 2, Col: 7, Off: 25}})
	fails(t, x, "p,\n⊥ $", api.Fault{Code: api.ErrParse, At: api.Spot{Line: 2, Col: 3, Off: 7}})
	fails(t, x, strings.Repeat("p,\n", 511)+"⊤∧¬p", api.Fault{Code: api.ErrTooBig, At: api.Spot{Line: 512, Col: 2, Off: 1536}})
}

// listed is a text of so many atoms p with commas between.
func listed(n int) string { return strings.Repeat("p, ", n-1) + "p" }

// TestParseTooBig: P8.2, counted tokens of all formulas together, up to MaxFormula and one more.
func TestParseTooBig(t *testing.T) {
	parses(t, formula.New(), listed(511)+" |- p", seq(0, 0), atom("p"))
	refuses(t, formula.New(), listed(512)+" |- p", api.ErrTooBig, len(listed(512))+4)
	refuses(t, formula.New(), listed(512)+" |- p & p", api.ErrTooBig, len(listed(512))+4)
	refuses(t, formula.New(), listed(513)+" |- p", api.ErrTooBig, len(listed(513))-1)
	nots := strings.Repeat("~", 200)
	x := formula.New()
	if s, f := sequent.Parse(x, nots+"p, "+nots+"q |- "+strings.Repeat("~", 109)+"r"); f != (api.Fault{}) || len(leftOf(s)) != 2 {
		t.Error(s, f)
	}
	refuses(t, formula.New(), nots+"p, "+nots+"q |- "+strings.Repeat("~", 110)+"r", api.ErrTooBig, 2*201+6+110)
	for _, sign := range []string{"&", "|", "->", "<->", "~", "let", "_", "true"} {
		text := listed(512) + " |- " + sign
		refuses(t, formula.New(), text, api.ErrTooBig, len(text)-len(sign))
	}
	for _, sign := range []string{"", ",", "|-", ")", "7", "=>", "$", "- p", "é p"} {
		text := listed(512) + " |- "
		refuses(t, formula.New(), text+sign, api.ErrParse, len(text))
		refuses(t, formula.New(), text+"("+sign, api.ErrParse, len(text)+1)
	}
}

// TestParseTooBigFirst: P8.2, a token too many is told ahead of one with which no sequent can go on; what stands behind layer 2's fault is not counted.
func TestParseTooBigFirst(t *testing.T) {
	many := strings.Repeat(" p", 513)
	x := filled(t, nil, api.MaxForms)
	for _, ahead := range []string{"", ",", "|- |-", ", ,", "((", ")", "7 .", "|- ,"} {
		text := ahead + many
		refuses(t, x, text, api.ErrTooBig, len(text)-1)
		refuses(t, x, text+" $ p", api.ErrTooBig, len(text)-1)
	}
	refuses(t, x, "$"+many, api.ErrParse, 0)
	refuses(t, x, "p |- 1p"+many, api.ErrParse, 5)
	refuses(t, x, "p q $"+many, api.ErrParse, 2)
	refuses(t, x, many[:2*512]+" $ p", api.ErrParse, 3)
	refuses(t, x, strings.Repeat("~", 512)+"$", api.ErrParse, 512)
	refuses(t, x, "|- "+strings.Repeat("~", 512)+"1p", api.ErrParse, 515)
}

// TestParseNested: up to MaxNest parentheses are open at once, in each formula anew.
func TestParseNested(t *testing.T) {
	open, shut := strings.Repeat("(", 1024), strings.Repeat(")", 1024)
	deep := open + "p" + shut
	parses(t, formula.New(), deep+", "+deep+" |- "+deep, seq(0, 0), atom("p"))
	refuses(t, formula.New(), deep+" |- ("+deep+")", api.ErrParse, len(deep)+4+1024)
	refuses(t, formula.New(), deep+", ("+deep+") |- p", api.ErrParse, len(deep)+2+1024)
	refuses(t, formula.New(), strings.Repeat("(", 100000), api.ErrParse, 1024)
}

// TestParseLong: texts that are much longer than what they say, and long rows of what is wrong.
func TestParseLong(t *testing.T) {
	gap := strings.Repeat("# é\n \t", 50000)
	parses(t, formula.New(), gap+"p"+gap+","+gap+"q"+gap+"|-"+gap+"r"+gap, seq(2, 0, 1), atom("p"), atom("q"), atom("r"))
	refuses(t, formula.New(), "p"+strings.Repeat(",", 200000), api.ErrParse, 2)
	refuses(t, formula.New(), strings.Repeat("|-", 200000), api.ErrParse, 2)
	refuses(t, formula.New(), strings.Repeat("p", 200000), api.ErrParse, 0)
}

// widest is the formula of at most MaxFormula counted tokens that makes the most rows: 256 atoms with <-> between, three rows each, one of them below ~.
func widest() string {
	var names []string
	for i := range 256 {
		names = append(names, "n"+strconv.Itoa(i))
	}
	return "~" + strings.Join(names, " <-> ")
}

// TestParseWidest: an empty table has room for all that MaxFormula tokens make, and what is no sequent behind so many rows is found to be none.
func TestParseWidest(t *testing.T) {
	for _, text := range []string{widest(), "|- " + widest(), strings.Replace(widest(), " <-> n99", ", n99", 1) + " |- p"} {
		x := formula.New()
		sameParse(t, x, text)
		if x.Len() < 1000 {
			t.Errorf("%.40q: %d rows", text, x.Len())
		}
	}
	refuses(t, formula.New(), widest()+" |- ,", api.ErrParse, len(widest())+4)
	refuses(t, formula.New(), "|- "+widest()+" |-", api.ErrParse, len(widest())+4)
	sameParse(t, filled(t, nil, 1), widest()) // 1023 rows more
	x := filled(t, nil, 2)
	fails(t, x, widest(), api.Fault{Code: api.ErrForms})
	refuses(t, x, widest()+",", api.ErrParse, len(widest())+1)
}

// TestParseFull: P8.2, tables that are full, or become full on the way, in each formula of the text: as they were behind ErrForms; with just as much room as is needed there is the sequent.
func TestParseFull(t *testing.T) {
	rows := []api.Node{atom("p"), atom("q"), join(api.KAnd, 0, 1)}
	for text, need := range map[string]int{
		"p, p & q |- q":           0,
		"p & q":                   0,
		"x":                       1,
		"|- x":                    1,
		"x |- p":                  1,
		"p, x, q |- p":            1,
		"p, x |- x":               1,
		"x |- y":                  2,
		"x, y |- z":               3,
		"p |- ~p":                 2,
		"~p, ~q |- false":         3,
		"q & p, x |- p & x":       3,
		"p & q, p |- q & p":       1,
		"p <-> q, x -> y |- y":    6,
		"x & y, y & x |- y | x":   5,
		"p & q |- p & q & (p&q)":  1,
		"p |- true":               2,
		"x, x, x, x |- (x) & (x)": 2,
	} {
		for room := range need + 3 {
			x := filled(t, rows, api.MaxForms-room)
			if room < need {
				fails(t, x, text, api.Fault{Code: api.ErrForms})
				continue
			}
			sameParse(t, x, text)
			if x.Len() != api.MaxForms-room+need {
				t.Errorf("%q: %d new rows, not %d", text, x.Len()-api.MaxForms+room, need)
			}
		}
	}
}

// TestParseFullOrder: R2, in a full table each other fault is told ahead of ErrForms, wherever the formula without room stands.
func TestParseFullOrder(t *testing.T) {
	x := filled(t, []api.Node{atom("p")}, api.MaxForms)
	refuses(t, x, "x, y |-", api.ErrParse, 7)
	refuses(t, x, "x, y", api.ErrParse, 4)
	refuses(t, x, "x & y, |- p", api.ErrParse, 7)
	refuses(t, x, "x |- y |- z", api.ErrParse, 7)
	refuses(t, x, "x |- y $", api.ErrParse, 7)
	refuses(t, x, "p, ~x |- p p", api.ErrParse, 11)
	fails(t, x, "x, y |- p", api.Fault{Code: api.ErrForms})
	// Behind a fault the rows that were tried are none: their numbers are given anew.
	y := filled(t, []api.Node{atom("p")}, api.MaxForms-2)
	fails(t, y, "x, y |- z", api.Fault{Code: api.ErrForms})
	for _, name := range []string{"x", "y", "z"} {
		if _, ok := y.Find(atom(name)); ok {
			t.Error(name, "is left")
		}
	}
	parses(t, y, "z |- y", seq(api.MaxForms-1, api.MaxForms-2))
}

// TestParseApart: R4, tables know nothing of one another, and nothing is kept behind a call that was refused.
func TestParseApart(t *testing.T) {
	x, y := formula.New(), formula.New()
	parses(t, x, "q, p |- q", seq(0, 0, 1))
	refuses(t, x, "r, s |- ((", api.ErrParse, 10)
	parses(t, y, "p |- q", seq(1, 0), atom("p"), atom("q"))
	parses(t, x, "q", seq(0), atom("q"), atom("p"))
}

// sameParse holds Parse against the plain one.
func sameParse(t *testing.T, x *formula.Table, text string) {
	t.Helper()
	want, fault, rows := plainParse(x, text)
	s, f := sequent.Parse(x, text)
	if s != want || f != fault || !slices.Equal(x.Rows(), rows) {
		t.Fatalf("Parse(%.200q): %v |- %d, fault %v, not %v |- %d, fault %v; %d rows, not %d", text, leftOf(s), s.Goal, f, leftOf(want), want.Goal, fault, x.Len(), len(rows))
	}
}

// TestParseAllShortTexts holds Parse against the plain one in every text of up to five tokens.
func TestParseAllShortTexts(t *testing.T) {
	pieces := strings.Fields("p q true let ~ & -> ( ) , |- $")
	x := made(t, atom("q"))
	var walk func(text string, left int)
	walk = func(text string, left int) {
		x.Cut(1)
		sameParse(t, x, text)
		if left > 0 {
			for _, p := range pieces {
				walk(text+" "+p, left-1)
			}
		}
	}
	walk("", 5)
}

// TestParseWaysToGoOn holds Parse against the plain one in all texts of up to nine tokens of few kinds with which a sequent can go on, with a token and a byte behind them with which none can.
func TestParseWaysToGoOn(t *testing.T) {
	pieces := strings.Fields("p q & , |- ( )")
	x := filled(t, []api.Node{atom("q")}, 5)
	var walk func(text string, left int)
	walk = func(text string, left int) {
		x.Cut(5)
		l, _ := token.Scan(text)
		if stop, _ := plainStop(l); stop < len(l)-1 { // the last piece was none to go on with
			sameParse(t, x, text+" p |- q")
			return
		}
		sameParse(t, x, text)
		sameParse(t, x, text+" $")
		if left > 0 {
			for _, p := range pieces {
				walk(text+" "+p, left-1)
			}
		}
	}
	walk("", 9)
}
