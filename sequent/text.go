package sequent

import (
	"strings"

	"dictum/api"
	"dictum/bits"
	"dictum/formula"
	"dictum/syntax"
	"dictum/token"
)

// The signs that are a sequent's own: between two formulas of the left side, and ahead of the goal.
const (
	between = ","
	turn    = "|-"
)

// noToken is the kind of what stands where layer 2 has its fault: neither a token nor the end.
const noToken api.TokenKind = -1

// Parse reads a sequent (P8.2).
func Parse(t *formula.Table, text string) (api.Seq, api.Fault) {
	if !made(t) {
		return api.Seq{}, api.Fault{Code: api.ErrNil}
	}
	if syntax.Count(text) > api.MaxFormula {
		_, fault := syntax.Parse(t, text) // it tells the token that is one too many ahead of whatever else is wrong
		return api.Seq{}, fault
	}
	left, goal, fault := sides(tokens(text))
	if fault.Code != api.OK {
		return api.Seq{}, fault
	}
	return put(t, left, goal)
}

// tokens are those ahead of the text's first fault, and behind them the end or, at the fault, noToken.
func tokens(text string) []api.Token {
	l, fault := token.Scan(text)
	if fault.Code == api.OK {
		return l
	}
	// What stands ahead of a fault is a text without one; its end is where the fault is.
	l, _ = token.Scan(text[:fault.At.Off])
	l[len(l)-1].Kind = noToken
	return l
}

// sides cuts a sequent's tokens, whose last one is the end or noToken, into those of each formula. Nothing is put into a table: of a text that is no sequent further on that is told ahead of a table that is full.
func sides(l []api.Token) (left [][]api.Token, goal []api.Token, fault api.Fault) {
	if !isSign(l[0], turn) {
		if left, l, fault = leftSide(l); fault.Code != api.OK {
			return nil, nil, fault
		}
		if len(left) == 1 && l[0].Kind == api.TokenEnd {
			return nil, left[0], api.Fault{}
		}
		if !isSign(l[0], turn) {
			return nil, nil, refuse(l[0])
		}
	}
	goal, l, fault = first(l[1:])
	if fault.Code != api.OK {
		return nil, nil, fault
	}
	if l[0].Kind != api.TokenEnd {
		return nil, nil, refuse(l[0])
	}
	return left, goal, api.Fault{}
}

// leftSide answers the tokens of each of the formulas at the beginning, and what stands behind them.
func leftSide(l []api.Token) ([][]api.Token, []api.Token, api.Fault) {
	var left [][]api.Token
	for {
		part, rest, fault := first(l)
		if fault.Code != api.OK {
			return nil, nil, fault
		}
		left = append(left, part)
		if !isSign(rest[0], between) {
			return left, rest, api.Fault{}
		}
		l = rest[1:]
	}
}

// first answers the tokens of the formula at the beginning, and what stands behind it.
func first(l []api.Token) ([]api.Token, []api.Token, api.Fault) {
	_, size, fault := syntax.Take(formula.New(), l) // an empty table has room for every formula of MaxFormula tokens
	if fault.Code != api.OK {
		return nil, nil, fault
	}
	return l[:size], l[size:], api.Fault{}
}

func isSign(k api.Token, sign string) bool {
	return k.Kind == api.TokenSign && k.Text == sign
}

// refuse is the fault of a token with which no sequent can go on.
func refuse(k api.Token) api.Fault { return api.Fault{Code: api.ErrParse, At: k.At} }

// put puts the formulas of both sides into the table, in the order of the text.
func put(t *formula.Table, left [][]api.Token, goal []api.Token) (api.Seq, api.Fault) {
	back := restoring(t)
	var s api.Seq
	for _, part := range left {
		id, _, fault := syntax.Take(t, part)
		if fault.Code != api.OK {
			back()
			return api.Seq{}, fault
		}
		s.Left, _ = bits.Put(s.Left, id) // a row's number is one of a row of bits
	}
	id, _, fault := syntax.Take(t, goal)
	if fault.Code != api.OK {
		back()
		return api.Seq{}, fault
	}
	s.Goal = id
	return s, api.Fault{}
}

// Print writes a sequent (P8.3).
func Print(t *formula.Table, s api.Seq) (string, api.Errno) {
	if e := Check(t, s); e != api.OK {
		return "", e
	}
	var out strings.Builder
	for id := range bits.All(s.Left) {
		if out.Len() > 0 {
			out.WriteString(between + " ")
		}
		if e := write(&out, t, id); e != api.OK {
			return "", e
		}
	}
	if out.Len() > 0 {
		out.WriteString(" ")
	}
	out.WriteString(turn + " ")
	if e := write(&out, t, s.Goal); e != api.OK {
		return "", e
	}
	return out.String(), api.OK
}

// write puts a formula's text behind what is written. It is asked of each formula whether that is too long already, since a thousand long ones would be much to write in vain.
func write(out *strings.Builder, t *formula.Table, id int) api.Errno {
	text, e := syntax.Print(t, id)
	if e != api.OK {
		return e
	}
	if out.Len()+len(text) > api.MaxText {
		return api.ErrLong
	}
	out.WriteString(text)
	return api.OK
}
