package syntax

import (
	"dictum/api"
	"dictum/formula"
)

// reader goes through tokens. Where no formula can go on it panics with an api.Fault, which read catches.
type reader struct {
	table  *formula.Table
	tokens []api.Token
	next   int
	many   int // counted tokens so far
	open   int // parentheses
}

// putting puts a formula that was read into the table, and answers its number. Nothing is put ahead of its being called, so that a text that is no formula further on leaves no rows.
type putting func() int

// joining puts what joins two parts that are rows already.
type joining func(a int, b int) (int, api.Errno)

// read reads the formula at the beginning of tokens, asks what must hold of what stands behind it, and puts it: its number, and how many tokens it has.
func read(t *formula.Table, l []api.Token, behind func(*reader)) (id int, size int, fault api.Fault) {
	rows := t.Len()
	defer func() {
		if v := recover(); v != nil {
			f, ok := v.(api.Fault)
			if !ok {
				panic(v)
			}
			t.Cut(rows)
			id, size, fault = 0, 0, f
		}
	}()
	r := &reader{table: t, tokens: l}
	put := r.formula()
	behind(r)
	return put(), r.next, api.Fault{}
}

// peek answers the next token; where the list ends, an end without a spot.
func (r *reader) peek() api.Token {
	if r.next < len(r.tokens) {
		return r.tokens[r.next]
	}
	return api.Token{}
}

// step goes over the next token.
func (r *reader) step() {
	k := r.peek()
	if counts(k) {
		r.many++
	}
	if r.many > api.MaxFormula {
		panic(api.Fault{Code: api.ErrTooBig, At: k.At})
	}
	r.next++
}

// refuse gives up at the next token, with which no formula can go on. It is gone over first, as it may be one too many, too.
func (r *reader) refuse() {
	k := r.peek()
	r.step()
	panic(api.Fault{Code: api.ErrParse, At: k.At})
}

// at tells whether the next token is that sign.
func (r *reader) at(sign string) bool {
	k := r.peek()
	return k.Kind == api.TokenSign && k.Text == sign
}

// sign goes over the next token, if it is that sign.
func (r *reader) sign(s string) bool {
	if !r.at(s) {
		return false
	}
	r.step()
	return true
}

// end asks that the text ends here.
func (r *reader) end() {
	if r.peek().Kind != api.TokenEnd {
		r.refuse()
	}
}

func (r *reader) formula() putting {
	left := r.implied()
	if !r.sign("<->") {
		return left
	}
	return join(left, r.formula(), r.mutual)
}

func (r *reader) implied() putting {
	left := r.joined()
	if !r.sign("->") {
		return left
	}
	return join(left, r.implied(), r.table.Imp)
}

func (r *reader) joined() putting {
	return r.chain("|", r.both, r.table.Or)
}

func (r *reader) both() putting {
	return r.chain("&", r.single, r.table.And)
}

// chain reads parts with a sign between each two, which groups to the left.
func (r *reader) chain(sign string, part func() putting, how joining) putting {
	left := part()
	for r.sign(sign) {
		left = join(left, part(), how)
	}
	return left
}

func (r *reader) single() putting {
	switch {
	case r.sign("~"):
		part := r.single()
		return func() int { return sure(r.table.Not(part())) }
	case r.at("("):
		return r.enclosed()
	case r.peek().Kind == api.TokenName:
		return r.word()
	}
	r.refuse()
	return nil
}

// enclosed reads a formula in parentheses.
func (r *reader) enclosed() putting {
	if r.open == api.MaxNest {
		r.refuse()
	}
	r.step()
	r.open++
	inner := r.formula()
	if !r.sign(")") {
		r.refuse()
	}
	r.open--
	return inner
}

// word reads a name, true or false.
func (r *reader) word() putting {
	name := r.peek().Text
	put := r.named(name)
	if put == nil {
		r.refuse()
	}
	r.step()
	return put
}

// named answers what puts the formula of that name; nil, if there is none.
func (r *reader) named(name string) putting {
	switch {
	case name == "false":
		return func() int { return sure(r.table.Bot()) }
	case name == "true":
		return func() int { return sure(r.table.Not(sure(r.table.Bot()))) }
	case formula.Word(name):
		return func() int { return sure(r.table.Atom(name)) }
	}
	return nil
}

// join puts the left part, the right one, then what joins them.
func join(left putting, right putting, how joining) putting {
	return func() int {
		a := left()
		b := right()
		return sure(how(a, b))
	}
}

// mutual puts a -> b, b -> a, and that both hold.
func (r *reader) mutual(a int, b int) (int, api.Errno) {
	there := sure(r.table.Imp(a, b))
	back := sure(r.table.Imp(b, a))
	return r.table.And(there, back)
}

// sure gives up where a row cannot be put: the table is full.
func sure(id int, e api.Errno) int {
	if e != api.OK {
		panic(api.Fault{Code: e})
	}
	return id
}
