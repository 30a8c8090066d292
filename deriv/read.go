package deriv

import (
	"slices"
	"strings"

	"dictum/api"
	"dictum/formula"
)

// reader reads a formula's text as layer 4 prints it, and puts the formula part by part as layer 4 does. Layer 4's own reading has a bound of tokens which what it prints may be above.
type reader struct {
	table *formula.Table
	rest  string
	open  int // parentheses
}

// joining puts what joins two parts that are rows already.
type joining func(a int, b int) (int, api.Errno)

// putFormula puts the formula of a text into the table, and answers its number.
func putFormula(t *formula.Table, text string) (int, error) {
	r := &reader{table: t, rest: text}
	id, err := r.implied()
	if err != nil {
		return 0, err
	}
	if r.rest != "" {
		return 0, errLine
	}
	return id, nil
}

// put answers a row, or why there is none.
func put(id int, e api.Errno) (int, error) {
	switch e {
	case api.OK:
		return id, nil
	case api.ErrForms:
		return 0, errRoom
	}
	return 0, errLine
}

// sign goes over a sign, if the text goes on with it.
func (r *reader) sign(s string) bool {
	rest, ok := strings.CutPrefix(r.rest, s)
	r.rest = rest
	return ok
}

// parts reads parts with a sign between each two.
func (r *reader) parts(sign string, part func() (int, error)) ([]int, error) {
	var l []int
	for more := true; more; more = r.sign(sign) {
		id, err := part()
		if err != nil {
			return nil, err
		}
		l = append(l, id)
	}
	return l, nil
}

// implied reads parts with -> between, which groups to the right.
func (r *reader) implied() (int, error) {
	l, err := r.parts(" -> ", r.joined)
	if err != nil {
		return 0, err
	}
	last := len(l) - 1
	id := l[last]
	for _, left := range slices.Backward(l[:last]) {
		if id, err = put(r.table.Imp(left, id)); err != nil {
			return 0, err
		}
	}
	return id, nil
}

func (r *reader) joined() (int, error) { return r.chain(" | ", r.both, r.table.Or) }

func (r *reader) both() (int, error) { return r.chain(" & ", r.single, r.table.And) }

// chain reads parts with a sign between, which groups to the left: what joins two of them is put ahead of the next part.
func (r *reader) chain(sign string, part func() (int, error), how joining) (int, error) {
	id, err := part()
	for err == nil && r.sign(sign) {
		var right int
		if right, err = part(); err == nil {
			id, err = put(how(id, right))
		}
	}
	return id, err
}

// single reads what binds closest, with any number of ~ ahead.
func (r *reader) single() (int, error) {
	nots := 0
	for r.sign("~") {
		nots++
	}
	id, err := r.plain()
	for ; err == nil && nots > 0; nots-- {
		id, err = put(r.table.Not(id))
	}
	return id, err
}

// plain reads a word or a formula in parentheses.
func (r *reader) plain() (int, error) {
	if !r.sign("(") {
		return r.word()
	}
	// Each open parenthesis stands round a part of its own, so no table lets Print write as many.
	if r.open == api.MaxForms {
		return 0, errLine
	}
	r.open++
	id, err := r.implied()
	if err == nil && !r.sign(")") {
		err = errLine
	}
	r.open--
	return id, err
}

// word reads a name, true or false.
func (r *reader) word() (int, error) {
	end := strings.IndexAny(r.rest, " )")
	if end < 0 {
		end = len(r.rest)
	}
	name := r.rest[:end]
	r.rest = r.rest[end:]
	switch name {
	case "false":
		return put(r.table.Bot())
	case "true":
		bot, err := put(r.table.Bot())
		if err != nil {
			return 0, err
		}
		return put(r.table.Not(bot))
	}
	return put(r.table.Atom(name))
}
