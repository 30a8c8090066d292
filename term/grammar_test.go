package term_test

import (
	"slices"
	"strings"
	"testing"

	"dictum/api"
	"dictum/formula"
	"dictum/syntax"
	"dictum/term"
	"dictum/token"
)

// grammar is the chapter's, and layer 4's, a rule a line: what stands in quotes is a sign or a word.
const grammar = `
start: term
term: 'fun' NAME '=>' term
term: 'case' term 'of' NAME '=>' term '|' NAME '=>' term
term: 'let' NAME '=' term 'in' term
term: head atoms
atoms:
atoms: atoms atom
head: 'fst' atom
head: 'snd' atom
head: 'inl' atom
head: 'inr' atom
head: 'abort' atom
head: atom
atom: NAME
atom: '(' term ')'
atom: '(' term ',' term ')'
atom: '(' term ':' formula ')'
formula: implied
formula: implied '<->' formula
implied: joined
implied: joined '->' implied
joined: both
joined: joined '|' both
both: single
both: both '&' single
single: '~' single
single: NAME
single: 'true'
single: 'false'
single: '(' formula ')'
`

// rule is one of the grammar's: its first word, and the words behind.
type rule struct {
	name string
	body []string
}

func rules() []rule {
	var out []rule
	for line := range strings.SplitSeq(strings.TrimSpace(grammar), "\n") {
		name, body, _ := strings.Cut(line, ":")
		out = append(out, rule{name, strings.Fields(body)})
	}
	return out
}

// item is a rule that has come so far since a token.
type item struct {
	rule int
	done int
	from int
}

// chart is Earley's: what may be going on ahead of each token.
type chart struct {
	rules []rule
	sets  [][]item
}

func newChart() *chart {
	c := &chart{rules: rules(), sets: [][]item{{{0, 0, 0}}}}
	c.close()
	return c
}

func (c *chart) last() int { return len(c.sets) - 1 }

func (c *chart) put(i item) {
	if last := &c.sets[c.last()]; !slices.Contains(*last, i) {
		*last = append(*last, i)
	}
}

// wanted is the word that an item waits for; "", if it has come to its end.
func (c *chart) wanted(i item) string {
	if body := c.rules[i.rule].body; i.done < len(body) {
		return body[i.done]
	}
	return ""
}

// close puts all that follows into the last set. A rule without words may end in the set where it began, so it is done till nothing is new.
func (c *chart) close() {
	for was := -1; was != len(c.sets[c.last()]); {
		was = len(c.sets[c.last()])
		for n := 0; n < len(c.sets[c.last()]); n++ {
			i := c.sets[c.last()][n]
			want := c.wanted(i)
			for k, r := range c.rules {
				if r.name == want {
					c.put(item{k, 0, c.last()})
				}
			}
			if want != "" {
				continue
			}
			for _, up := range slices.Clone(c.sets[i.from]) {
				if c.wanted(up) == c.rules[i.rule].name {
					c.put(item{up.rule, up.done + 1, up.from})
				}
			}
		}
	}
}

// fits tells whether a token is a terminal of the grammar.
func fits(want string, k api.Token) bool {
	if want == "NAME" {
		return k.Kind == api.TokenName && formula.Word(k.Text)
	}
	return k.Text != "" && want == "'"+k.Text+"'"
}

// step goes over a token, if a term can go on with it.
func (c *chart) step(k api.Token) bool {
	var next []item
	for _, i := range c.sets[c.last()] {
		if fits(c.wanted(i), k) {
			next = append(next, item{i.rule, i.done + 1, i.from})
		}
	}
	if len(next) == 0 {
		return false
	}
	c.sets = append(c.sets, next)
	c.close()
	return true
}

// back forgets the last token.
func (c *chart) back() { c.sets = c.sets[:c.last()] }

// whole tells whether what was gone over is a term.
func (c *chart) whole() bool { return slices.Contains(c.sets[c.last()], item{0, 1, 0}) }

// stop is the place of the first token with which no term can go on, or, of a list that is one and the end, -1.
func stop(l []api.Token) int {
	c := newChart()
	for i, k := range l {
		if k.Kind == api.TokenEnd && c.whole() {
			return -1
		}
		if !c.step(k) {
			return i
		}
	}
	return len(l)
}

// texts are those of tokens.
func texts(l []api.Token) []string {
	var out []string
	for _, k := range l {
		if k.Kind != api.TokenEnd {
			out = append(out, k.Text)
		}
	}
	return out
}

// trees are all terms that words can be read as, found by cutting them in all ways; formulas must be rows of the table.
func trees(t *formula.Table, w []string) []api.Term {
	if len(w) == 0 {
		return nil
	}
	switch {
	case w[0] == "fun":
		return bodies(t, w, func(a api.Term) api.Term { return lam(w[1], a) })
	case w[0] == "let":
		var out []api.Term
		for i := range w {
			if i < 3 || w[i] != "in" || w[2] != "=" {
				continue
			}
			for _, a := range trees(t, w[3:i]) {
				for _, b := range trees(t, w[i+1:]) {
					out = append(out, let(w[1], a, b))
				}
			}
		}
		return out
	case w[0] == "case":
		return caseTrees(t, w)
	}
	return rows(t, w)
}

// bodies are those of a name, => and a term behind a first word.
func bodies(t *formula.Table, w []string, f func(api.Term) api.Term) []api.Term {
	var out []api.Term
	if len(w) > 3 && formula.Word(w[1]) && w[2] == "=>" {
		for _, a := range trees(t, w[3:]) {
			out = append(out, f(a))
		}
	}
	return out
}

func caseTrees(t *formula.Table, w []string) []api.Term {
	var out []api.Term
	for i := range w {
		for j := i; j < len(w); j++ {
			if w[i] != "of" || w[j] != "|" {
				continue
			}
			for _, a := range trees(t, w[1:i]) {
				bodies(t, w[i:j], func(b api.Term) api.Term {
					bodies(t, w[j:], func(c api.Term) api.Term {
						out = append(out, choose(a, w[i+1], b, w[j+1], c))
						return c
					})
					return b
				})
			}
		}
	}
	return out
}

// rows are the readings as a head and atoms behind it.
func rows(t *formula.Table, w []string) []api.Term {
	out := atoms(t, w)
	if i := slices.Index([]string{"fst", "snd", "inl", "inr", "abort"}, w[0]); i >= 0 {
		for _, a := range atoms(t, w[1:]) {
			out = append(out, of(heads()[i], a))
		}
	}
	for i := 1; i < len(w); i++ {
		for _, b := range atoms(t, w[i:]) {
			for _, a := range rows(t, w[:i]) {
				out = append(out, app(a, b))
			}
		}
	}
	return out
}

func atoms(t *formula.Table, w []string) []api.Term {
	if len(w) == 1 && formula.Word(w[0]) {
		return []api.Term{v(w[0])}
	}
	if len(w) < 3 || w[0] != "(" || w[len(w)-1] != ")" {
		return nil
	}
	w = w[1 : len(w)-1]
	out := trees(t, w)
	for i := range w {
		for _, a := range trees(t, w[:i]) {
			if w[i] == ":" {
				if id, f := syntax.Parse(t.Copy(), strings.Join(w[i+1:], " ")); f.Code == api.OK {
					out = append(out, the(a, id))
				}
			}
			if w[i] == "," {
				for _, b := range trees(t, w[i+1:]) {
					out = append(out, pair(a, b))
				}
			}
		}
	}
	return out
}

// asGrammar holds Parse of a text without a fault of layer 2 against the grammar.
func asGrammar(t *testing.T, x *formula.Table, text string) {
	t.Helper()
	l, f := token.Scan(text)
	if f.Code != api.OK {
		t.Fatalf("%q: fault %v", text, f)
	}
	if at := stop(l); at >= 0 {
		fails(t, x, text, api.Fault{Code: api.ErrParse, At: l[at].At})
		return
	}
	want := trees(x, texts(l))
	if len(want) != 1 {
		t.Fatalf("%q: %d readings", text, len(want))
	}
	got, f := term.Parse(x, text)
	if f != (api.Fault{}) || !alike(got, want[0]) {
		t.Errorf("Parse(%q): %s, fault %v, not %s", text, show(got), f, show(want[0]))
	}
}

// formulas is a table that has all formulas which these tests' texts of formulas have.
func formulas(t *testing.T) *formula.Table {
	t.Helper()
	return made(t, atom("x"), atom("y"), join(api.KAnd, 0, 0), join(api.KOr, 0, 0), join(api.KImp, 0, 0), join(api.KAnd, 0, 2), join(api.KAnd, 2, 0), bot(), join(api.KImp, 7, 7), join(api.KImp, 0, 7))
}

// TestParseAllShort: P12.5, of all lists of up to so many tokens, which are a term, and which one; of the others the first token with which no term can go on. What stands behind that turns nothing.
func TestParseAllShort(t *testing.T) {
	x := formulas(t)
	alphabet := strings.Fields("fun case of let in snd x ( ) , : => | = & true ; 7")
	c := newChart()
	var walk func(w []string, left int)
	walk = func(w []string, left int) {
		text := strings.Join(w, " ")
		if c.whole() {
			want := trees(x, w)
			if len(want) != 1 {
				t.Fatalf("%q: %d readings", text, len(want))
			}
			got, f := term.Parse(x, text)
			if f != (api.Fault{}) || !alike(got, want[0]) {
				t.Fatalf("Parse(%q): %s, fault %v, not %s", text, show(got), f, show(want[0]))
			}
		} else {
			refuses(t, x, text, api.ErrParse, len(text))
		}
		for _, s := range alphabet {
			l, _ := token.Scan(s)
			if !c.step(l[0]) {
				refuses(t, x, text+" "+s, api.ErrParse, len(text)+1)
				refuses(t, x, text+" "+s+" ) x $", api.ErrParse, len(text)+1)
				continue
			}
			if left > 0 {
				walk(append(slices.Clone(w), s), left-1)
			}
			c.back()
		}
	}
	walk(nil, 7)
}

// TestParseAnyTokens: P12.5, longer texts by chance: terms in which a token was left out, put in or turned.
func TestParseAnyTokens(t *testing.T) {
	x := formulas(t)
	chance := newChance(1)
	signs := strings.Fields("fun case of let in fst snd inl inr abort x y ( ) , : => | = & -> <-> ~ true false ; 7 |- _x")
	for range 3000 {
		y := someTerm(chance, 1+chance.IntN(4), []string{"x", "y"}, x.Len())
		l, _ := token.Scan(plainPrint(x, y))
		if len(l) > 30 {
			continue
		}
		w := texts(l)
		asGrammar(t, x, strings.Join(w, " "))
		for range 5 {
			at := chance.IntN(len(w))
			sign := signs[chance.IntN(len(signs))]
			for _, u := range [][]string{slices.Delete(slices.Clone(w), at, at+1), slices.Insert(slices.Clone(w), at, sign), slices.Replace(slices.Clone(w), at, at+1, sign)} {
				l, _ := token.Scan(strings.Join(u, " "))
				if stop(l) >= 0 {
					asGrammar(t, x, strings.Join(u, " "))
				}
			}
		}
	}
}
