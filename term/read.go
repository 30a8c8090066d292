package term

import (
	"dictum/api"
	"dictum/formula"
	"dictum/syntax"
	"dictum/token"
)

// noToken is the kind of what stands where layer 2 has its fault: neither a token nor the end.
const noToken api.TokenKind = -1

// Parse reads a term (P12.5).
func Parse(t *formula.Table, text string) (api.Term, api.Fault) {
	if !made(t) {
		return api.Term{}, api.Fault{Code: api.ErrNil}
	}
	if len(text) > api.MaxText {
		return api.Term{}, api.Fault{Code: api.ErrLong}
	}
	x, forms, fault := read(tokens(text))
	if fault.Code != api.OK {
		return api.Term{}, fault
	}
	if Deep(x) > api.MaxDeep { // nodes are no more than the text's bytes, and so not too many
		return api.Term{}, api.Fault{Code: api.ErrLarge}
	}
	ids, fault := putForms(t, forms)
	if fault.Code != api.OK {
		return api.Term{}, fault
	}
	setForms(&x, ids)
	return x, api.Fault{}
}

// tokens are those ahead of the text's first fault, and behind them the end or, at the fault, noToken.
func tokens(text string) []api.Token {
	l, fault := token.Scan(text)
	if fault.Code == api.OK {
		return l
	}
	// What stands ahead of a fault is a text without one; its end is where the fault is.
	l, _ = token.Scan(text[:fault.At.Off])
	l[len(l)-1].Kind = noToken
	return l
}

// putForms puts formulas into the table, in the order of the text, and answers their numbers.
func putForms(t *formula.Table, forms [][]api.Token) ([]int, api.Fault) {
	rows := t.Len()
	var ids []int
	for _, l := range forms {
		id, _, fault := syntax.Take(t, l)
		if fault.Code != api.OK {
			t.Cut(rows)
			return nil, fault
		}
		ids = append(ids, id)
	}
	return ids, api.Fault{}
}

// setForms gives each TThe the number of its formula in the place of the formula's place in the text.
func setForms(x *api.Term, ids []int) {
	if x.Kind == api.TThe {
		x.Form = ids[x.Form]
	}
	for i := range x.Sub {
		setForms(&x.Sub[i], ids)
	}
}

// reader goes through tokens, whose last one is the end or noToken. Where no term can go on it panics with an api.Fault, which read catches.
type reader struct {
	tokens []api.Token
	next   int
	open   int // the term's own parentheses
	words  map[string]word
	forms  [][]api.Token // the formulas so far; the Form of a TThe that is read is its formula's place here
}

// word is one with which a term begins: the kind of the term, and what reads it behind the word.
type word struct {
	kind api.TermKind
	read func(*reader, api.TermKind) api.Term
}

// words makes the table of them.
func words() map[string]word {
	return map[string]word{
		"fun":   {api.TLam, (*reader).function},
		"case":  {api.TCase, (*reader).cases},
		"let":   {api.TLet, (*reader).let},
		"fst":   {api.TFst, (*reader).head},
		"snd":   {api.TSnd, (*reader).head},
		"inl":   {api.TInl, (*reader).head},
		"inr":   {api.TInr, (*reader).head},
		"abort": {api.TAbort, (*reader).head},
	}
}

// read reads tokens that are just one term: it, and the tokens of its formulas. Nothing is put into a table: a text that is no term further on, and levels, are told ahead of a table that is full.
func read(l []api.Token) (x api.Term, forms [][]api.Token, fault api.Fault) {
	defer func() {
		if v := recover(); v != nil {
			f, ok := v.(api.Fault)
			if !ok {
				panic(v)
			}
			x, forms, fault = api.Term{}, nil, f
		}
	}()
	r := &reader{tokens: l, words: words()}
	x = r.term()
	if r.peek().Kind != api.TokenEnd {
		r.refuse()
	}
	return x, r.forms, api.Fault{}
}

func (r *reader) peek() api.Token { return r.tokens[r.next] }

// refuse gives up at the next token, with which no term can go on.
func (r *reader) refuse() {
	panic(api.Fault{Code: api.ErrParse, At: r.peek().At})
}

// is tells whether the next token is that sign or word; no sign is a word, too.
func (r *reader) is(text string) bool { return r.peek().Text == text }

// over goes over the next token, which must be that sign or word.
func (r *reader) over(text string) {
	if !r.is(text) {
		r.refuse()
	}
	r.next++
}

// atName tells whether the next token is a name, and none of the words that are taken.
func (r *reader) atName() bool {
	return formula.Word(r.peek().Text) // no sign is one
}

// name goes over a name.
func (r *reader) name() string {
	if !r.atName() {
		r.refuse()
	}
	r.next++
	return r.tokens[r.next-1].Text
}

func (r *reader) term() api.Term {
	if w, ok := r.words[r.peek().Text]; ok {
		r.next++
		return w.read(r, w.kind)
	}
	return r.applied(r.atom())
}

func (r *reader) function(kind api.TermKind) api.Term {
	name := r.name()
	r.over("=>")
	return api.Term{Kind: kind, Name: name, Sub: []api.Term{r.term()}}
}

func (r *reader) cases(kind api.TermKind) api.Term {
	of := r.term()
	r.over("of")
	name := r.name()
	r.over("=>")
	first := r.term()
	r.over("|")
	other := r.name()
	r.over("=>")
	second := r.term()
	return api.Term{Kind: kind, Name: name, Other: other, Sub: []api.Term{of, first, second}}
}

func (r *reader) let(kind api.TermKind) api.Term {
	name := r.name()
	r.over("=")
	what := r.term()
	r.over("in")
	return api.Term{Kind: kind, Name: name, Sub: []api.Term{what, r.term()}}
}

func (r *reader) head(kind api.TermKind) api.Term {
	return r.applied(api.Term{Kind: kind, Sub: []api.Term{r.atom()}})
}

// applied reads what a term is applied to.
func (r *reader) applied(x api.Term) api.Term {
	for r.atName() || r.is("(") {
		x = api.Term{Kind: api.TApp, Sub: []api.Term{x, r.atom()}}
	}
	return x
}

func (r *reader) atom() api.Term {
	if r.is("(") {
		return r.enclosed()
	}
	return api.Term{Kind: api.TVar, Name: r.name()}
}

// enclosed reads what stands in parentheses, with them.
func (r *reader) enclosed() api.Term {
	if r.open == api.MaxNest {
		r.refuse()
	}
	r.open++
	r.next++
	x := r.term()
	switch {
	case r.is(","):
		r.next++
		x = api.Term{Kind: api.TPair, Sub: []api.Term{x, r.term()}}
	case r.is(":"):
		r.next++
		x = api.Term{Kind: api.TThe, Form: r.formula(), Sub: []api.Term{x}}
	}
	r.over(")")
	r.open--
	return x
}

// formula goes over a formula, and answers its place among all of the text.
func (r *reader) formula() int {
	l := r.tokens[r.next:]
	_, size, fault := syntax.Take(formula.New(), l) // an empty table has room for every formula of MaxFormula tokens
	if fault.Code != api.OK {
		panic(fault)
	}
	r.next += size
	r.forms = append(r.forms, l[:size])
	return len(r.forms) - 1
}
