package term

import (
	"strings"

	"dictum/api"
	"dictum/formula"
	"dictum/syntax"
)

// Print writes a term (P12.6).
func Print(t *formula.Table, x api.Term) (string, api.Errno) {
	if !made(t) {
		return "", api.ErrNil
	}
	if e := Check(x); e != api.OK {
		return "", e
	}
	if !formed(t, x) {
		return "", api.ErrForm
	}
	p := &printer{table: t}
	p.term(x)
	if p.long {
		return "", api.ErrLong
	}
	return p.out.String(), api.OK
}

// made tells whether a call made the table.
func made(t *formula.Table) bool {
	_, e := t.Below(-1) // no row has that number, but a Table that no call made is told first
	return e != api.ErrNil
}

// formed tells whether all formulas beside a term and its parts are some of the table.
func formed(t *formula.Table, x api.Term) bool {
	if _, ok := t.Node(x.Form); x.Kind == api.TThe && !ok {
		return false
	}
	for _, part := range x.Sub {
		if !formed(t, part) {
			return false
		}
	}
	return true
}

// printer writes a term from left to right, and nothing any more once that is too long.
type printer struct {
	table *formula.Table
	out   strings.Builder
	long  bool
}

func (p *printer) text(pieces ...string) {
	for _, s := range pieces {
		p.long = p.long || p.out.Len()+len(s) > api.MaxText
		if !p.long {
			p.out.WriteString(s)
		}
	}
}

func (p *printer) term(x api.Term) {
	switch x.Kind {
	case api.TVar:
		p.text(x.Name)
	case api.TLam:
		p.text("fun ", x.Name, " => ")
		p.part(x, 0)
	case api.TApp:
		p.part(x, 0)
		p.text(" ")
		p.part(x, 1)
	case api.TPair:
		p.text("(")
		p.part(x, 0)
		p.text(", ")
		p.part(x, 1)
		p.text(")")
	case api.TCase:
		p.text("case ")
		p.part(x, 0)
		p.text(" of ", x.Name, " => ")
		p.part(x, 1)
		p.text(" | ", x.Other, " => ")
		p.part(x, 2)
	case api.TThe:
		p.text("(")
		p.part(x, 0)
		p.text(" : ")
		p.formula(x.Form)
		p.text(")")
	case api.TLet:
		p.text("let ", x.Name, " = ")
		p.part(x, 0)
		p.text(" in ")
		p.part(x, 1)
	default:
		p.text(headWord(x.Kind), " ")
		p.part(x, 0)
	}
}

// formula writes a formula, whose text may be too long by itself.
func (p *printer) formula(id int) {
	if p.long {
		return
	}
	text, e := syntax.Print(p.table, id)
	p.long = e != api.OK
	p.text(text)
}

// part writes part i of a term, in parentheses where the grammar would read it otherwise.
func (p *printer) part(x api.Term, i int) {
	if !encloses(x, i) {
		p.term(x.Sub[i])
		return
	}
	p.text("(")
	p.term(x.Sub[i])
	p.text(")")
}

// encloses tells whether part i of a term stands in parentheses.
func encloses(x api.Term, i int) bool {
	inner := x.Sub[i].Kind
	switch {
	case x.Kind == api.TApp && i == 0:
		return reaches(inner)
	case x.Kind == api.TApp, headWord(x.Kind) != "":
		return reaches(inner) || inner == api.TApp || headWord(inner) != ""
	}
	return false
}

// reaches tells whether the text of such a term goes on as far as may be.
func reaches(k api.TermKind) bool {
	return k == api.TLam || k == api.TCase || k == api.TLet
}

// headWord is the word that stands ahead of the one part of such a term; "" of other kinds.
func headWord(k api.TermKind) string {
	switch k {
	case api.TFst:
		return "fst"
	case api.TSnd:
		return "snd"
	case api.TInl:
		return "inl"
	case api.TInr:
		return "inr"
	case api.TAbort:
		return "abort"
	}
	return ""
}
