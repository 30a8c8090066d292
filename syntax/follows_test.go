package syntax_test

import (
	"math/rand/v2"
	"slices"
	"strings"
	"testing"

	"dictum/api"
	"dictum/formula"
	"dictum/syntax"
	"dictum/token"
)

// someTable is a table of rows by chance, in which shared parts are not too many.
func someTable(chance *rand.Rand, size int) *formula.Table {
	x := formula.New()
	x.Atom("p")
	x.Atom("q'")
	x.Bot()
	for x.Len() < size {
		part := func() int { return max(chance.IntN(x.Len()), chance.IntN(x.Len())) }
		k := []api.Kind{api.KAnd, api.KOr, api.KImp, api.KImp}[chance.IntN(4)]
		r := part()
		if chance.IntN(5) == 0 {
			r = 2
		}
		x.Put(join(k, part(), r))
	}
	return x
}

// TestFollowsPrintParse is P4.5: what is printed is parsed as the same number, and nothing is put; and Print against the plain one.
func TestFollowsPrintParse(t *testing.T) {
	chance := rand.New(rand.NewPCG(4, 5))
	for range 400 {
		x := someTable(chance, 8+chance.IntN(40))
		rows := x.Rows()
		for id := range rows {
			s, e := syntax.Print(x, id)
			if e == api.ErrLong {
				continue
			}
			if want := plainPrint(x, id); s != want || e != api.OK {
				t.Fatalf("%q, error %d, not %q", s, e, want)
			}
			back, f := syntax.Parse(x, s)
			if syntax.Count(s) > api.MaxFormula {
				if back != 0 || f.Code != api.ErrTooBig {
					t.Fatalf("%d counted tokens: fault %v", syntax.Count(s), f)
				}
			} else if back != id || f != (api.Fault{}) {
				t.Fatalf("Print(%d): %q, parsed: %d, fault %v", id, s, back, f)
			}
		}
		if !slices.Equal(x.Rows(), rows) {
			t.Fatal("rows were put")
		}
	}
}

// TestFollowsFullTable is P4.5 in a table that has room for nothing.
func TestFollowsFullTable(t *testing.T) {
	chance := rand.New(rand.NewPCG(4, 6))
	x := someTable(chance, api.MaxForms)
	for id := range x.Len() {
		if s, e := syntax.Print(x, id); e == api.OK && syntax.Count(s) <= api.MaxFormula {
			if back := parsed(t, x, s); back != id {
				t.Fatalf("Print(%d): %q, parsed: %d", id, s, back)
			}
		}
	}
}

// TestFollowsFewParentheses is P4.4: without any one pair of its parentheses a text is another formula.
func TestFollowsFewParentheses(t *testing.T) {
	chance := rand.New(rand.NewPCG(4, 7))
	pairs := 0
	for range 300 {
		x := someTable(chance, 8+chance.IntN(8))
		for id := range x.Len() {
			s, e := syntax.Print(x, id)
			if e != api.OK || len(s) > 200 {
				continue
			}
			for i := range s {
				if s[i] == '(' {
					pairs++
					j := closing(s, i)
					if other, _ := syntax.Parse(x.Copy(), s[:i]+s[i+1:j]+s[j+1:]); other == id {
						t.Fatalf("%q has more parentheses than it needs", s)
					}
				}
			}
		}
	}
	if pairs < 1000 {
		t.Errorf("only %d pairs", pairs)
	}
}

// closing is the place of the parenthesis that closes the one at i.
func closing(s string, i int) int {
	open := 0
	for j := i; ; j++ {
		switch s[j] {
		case '(':
			open++
		case ')':
			open--
		}
		if open == 0 {
			return j
		}
	}
}

// TestFollowsAgain is P4.5: the same text once more, and in parentheses, is the same formula, and puts nothing.
func TestFollowsAgain(t *testing.T) {
	chance := rand.New(rand.NewPCG(4, 8))
	for range 500 {
		x := formula.New()
		s, e := token.Join(someFormula(chance, 1+chance.IntN(60)))
		if e != api.OK {
			t.Fatal(e)
		}
		id := parsed(t, x, s)
		size := x.Len()
		for _, same := range []string{s, "(" + s + ")", "((" + s + "))", " # x\n" + s + "\n", nested(900, s)} {
			if again := parsed(t, x, same); again != id || x.Len() != size {
				t.Fatalf("Parse(%q): %d, then %d", same, id, again)
			}
		}
	}
}

// TestFollowsAnyTexts is R1: texts of any bytes, held against the plain parser.
func TestFollowsAnyTexts(t *testing.T) {
	chance := rand.New(rand.NewPCG(4, 9))
	pieces := strings.Fields("p q r' true false let _ ( ( ( ) ) ) ~ ~ ¬ & ∧ | ∨ -> → <-> ↔ ⊤ ⊥ |- , 7 07 $ \xff \xe2\x8a é")
	pieces = append(pieces, " ", "\n", "#", "# x\n", "\x00", "-", "<")
	x := formula.New()
	for range 60000 {
		var b strings.Builder
		for range chance.IntN(16) {
			b.WriteString(pieces[chance.IntN(len(pieces))])
		}
		x.Cut(chance.IntN(min(x.Len(), 20) + 1))
		sameParse(t, x, b.String())
	}
	for range 20000 {
		l := make([]byte, chance.IntN(12))
		for i := range l {
			l[i] = byte(chance.Uint32())
		}
		sameParse(t, x, string(l))
	}
}

// TestFollowsGreatTexts holds Parse against the plain one round its limits: many tokens, spoiled here and there, in tables with more or less room.
func TestFollowsGreatTexts(t *testing.T) {
	chance := rand.New(rand.NewPCG(4, 10))
	codes := map[api.Errno]int{}
	for range 700 {
		s, _ := token.Join(someFormula(chance, 400+chance.IntN(500)))
		if chance.IntN(3) == 0 {
			i := chance.IntN(len(s))
			s = s[:i] + []string{"$", ")", "p p", "& &", "let"}[chance.IntN(5)] + s[i:]
		}
		x := crowded(t, chance.IntN(800))
		_, f := syntax.Parse(x.Copy(), s)
		codes[f.Code]++
		sameParse(t, x, s)
	}
	for _, code := range []api.Errno{api.OK, api.ErrTooBig, api.ErrParse, api.ErrForms} {
		if codes[code] < 20 {
			t.Errorf("fault %d only %d times", code, codes[code])
		}
	}
}
