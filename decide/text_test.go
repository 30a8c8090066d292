package decide_test

import (
	"strings"
	"testing"

	"dictum/api"
	"dictum/decide"
	"dictum/formula"
)

// TestTextKnown: P21.2, texts that are known to be proved, or not to be.
func TestTextKnown(t *testing.T) {
	for _, text := range provedTexts() {
		if a, f := heldText(t, text); !a.Proved || f != (api.Fault{}) {
			t.Errorf("%s: %s, fault %v", text, show(a), f)
		}
	}
	for _, text := range refutedTexts() {
		if a, f := heldText(t, text); a.Proved || f != (api.Fault{}) {
			t.Errorf("%s: %s, fault %v", text, show(a), f)
		}
	}
}

// TestTextForm: P21.2, a text's answer is Form's, of a table that has the text's formulas alone.
func TestTextForm(t *testing.T) {
	chance := newChance(5)
	for range 500 {
		text := someText(chance, 1+chance.IntN(25), 1+chance.IntN(5))
		x := formula.New()
		id := read(t, x, text)
		want, e := heldForm(t, x, id)
		if a, f := heldText(t, text); !alike(a, want) || f != (api.Fault{Code: e}) {
			t.Fatalf("%s: %s, fault %v, not %s, error %d", text, show(a), f, show(want), e)
		}
	}
}

// TestTextWritten: P21.2, other ways to write a formula: blanks, comments, parentheses, runes of logic.
func TestTextWritten(t *testing.T) {
	want, _ := decide.Text("p -> q | p")
	for _, text := range []string{" p->q|p ", "p\n->\t q\r\n| p", "(p) -> ((q | (p)))", "((p -> q | p))", "p → q ∨ p", "# a formula\np -> # of two atoms\nq | p # and no more"} {
		if a, f := heldText(t, text); !alike(a, want) || f != (api.Fault{}) {
			t.Errorf("%q: %s, fault %v", text, show(a), f)
		}
	}
}

// at is the fault at a place of a text of one line, which has no runes of several bytes ahead of it.
func at(e api.Errno, off int) api.Fault {
	return api.Fault{Code: e, At: api.Spot{Line: 1, Col: off + 1, Off: off}}
}

// TestTextParse: P21.2, ErrParse at the spot of the first token with which no formula can go on.
func TestTextParse(t *testing.T) {
	for text, off := range map[string]int{"": 0, "   ": 3, "p |": 3, "p q": 2, "(p": 2, "p)": 1, "p & & $": 4, "p $": 2, "let": 0, "->": 0, "p -> ": 5, "~": 1, "1": 0, "p & 1": 4, "p, q": 1, "|- p": 0, "()": 1, "\x00": 0, "p <- q": 2} {
		refusesText(t, text, at(api.ErrParse, off))
	}
	refusesText(t, "p ->\n  & q", api.Fault{Code: api.ErrParse, At: api.Spot{Line: 2, Col: 3, Off: 7}})
	refusesText(t, strings.Repeat("(", 1025)+"p"+strings.Repeat(")", 1025), at(api.ErrParse, 1024))
	if a, f := heldText(t, strings.Repeat("(", 1024)+"p"+strings.Repeat(")", 1024)); a.Proved || f != (api.Fault{}) {
		t.Error(show(a), f)
	}
}

// TestTextTooBig: P21.2, ErrTooBig at the spot of the token that is one too many, ahead of ErrParse; 512 tokens are not too many.
func TestTextTooBig(t *testing.T) {
	ands := strings.Repeat("p&", 255) + "p"
	if a, f := heldText(t, ands); a.Proved || a.Visits != 256 || f != (api.Fault{}) {
		t.Error(show(a), f)
	}
	if a, f := heldText(t, "~"+ands); a.Proved || f != (api.Fault{}) {
		t.Error(show(a), f)
	}
	refusesText(t, ands+"&p", at(api.ErrTooBig, 512))
	refusesText(t, "~~"+ands, at(api.ErrTooBig, 512))
	refusesText(t, ands+"&p & & $", at(api.ErrTooBig, 512))
	refusesText(t, "& "+ands+"&p", at(api.ErrTooBig, 513))
	refusesText(t, "p p "+ands, at(api.ErrTooBig, 514))
	refusesText(t, strings.Repeat("~", 513)+"p", at(api.ErrTooBig, 512))
	refusesText(t, "& "+ands, at(api.ErrParse, 0))
	refusesText(t, "p $ "+ands+"&p", at(api.ErrParse, 2)) // what stands behind the fault is not counted
}

// TestTextChance: P21.2, texts of tokens by chance, few of which are formulas.
func TestTextChance(t *testing.T) {
	chance := newChance(6)
	tokens := []string{"p", "q", "p", "q", "~", "&", "|", "->", "<->", "(", ")", "true", "false", " ", "\n", "let", "$", "1", "∧", "é", "|-", "=>", "#"}
	got := map[api.Errno]int{}
	for range 20000 {
		var text strings.Builder
		most := 1 + chance.IntN(len(tokens))
		for range chance.IntN(8) {
			text.WriteString(tokens[chance.IntN(most)])
			if chance.IntN(2) == 0 {
				text.WriteString(" ")
			}
		}
		_, f := heldText(t, text.String())
		got[f.Code]++
	}
	if got[api.OK] < 500 || got[api.ErrParse] < 500 || len(got) != 2 {
		t.Error(got)
	}
}
