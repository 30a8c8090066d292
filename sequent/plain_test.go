package sequent_test

import (
	"slices"
	"strings"

	"dictum/api"
	"dictum/formula"
	"dictum/syntax"
	"dictum/token"
)

func isSign(k api.Token, signs string) bool {
	return k.Kind == api.TokenSign && slices.Contains(strings.Fields(signs), k.Text)
}

func plainCounts(k api.Token) bool {
	return k.Kind == api.TokenName || isSign(k, "~ & | -> <->")
}

// plainStop goes through tokens with no more than whether a part is awaited, how many parentheses are open, and what was seen of the sequent's own signs: the place of the first token with which no sequent can go on; that of the end, if it is one. The formulas' tokens, if it is one.
func plainStop(l []api.Token) (int, [][]api.Token) {
	awaited, open, commas, turned, begin := true, 0, 0, false, 0
	var parts [][]api.Token
	for i, k := range l {
		outside := !awaited && open == 0
		switch {
		case awaited && isSign(k, "~"):
		case awaited && isSign(k, "(") && open < 1024:
			open++
		case awaited && k.Kind == api.TokenName && (k.Text == "true" || k.Text == "false" || formula.Word(k.Text)):
			awaited = false
		case !awaited && isSign(k, "& | -> <->"):
			awaited = true
		case !awaited && open > 0 && isSign(k, ")"):
			open--
		case outside && !turned && isSign(k, ","):
			commas++
			parts, begin, awaited = append(parts, l[begin:i]), i+1, true
		case outside && !turned && isSign(k, "|-"):
			parts, begin, awaited, turned = append(parts, l[begin:i]), i+1, true, true
		case i == 0 && isSign(k, "|-"):
			begin, turned = 1, true
		case outside && k.Kind == api.TokenEnd && (turned || commas == 0):
			return i, append(parts, l[begin:i])
		default:
			return i, nil
		}
	}
	return len(l), nil
}

// plainParse says P8.2: what Parse answers, and the table's rows behind it.
func plainParse(x *formula.Table, text string) (api.Seq, api.Fault, []api.Node) {
	l, f := token.Scan(text)
	if f.Code != api.OK {
		l, _ = token.Scan(text[:f.At.Off])
		l[len(l)-1].Kind = 77
	}
	n := 0
	for _, k := range l {
		if plainCounts(k) {
			if n++; n == 513 {
				return api.Seq{}, api.Fault{Code: api.ErrTooBig, At: k.At}, x.Rows()
			}
		}
	}
	stop, parts := plainStop(l)
	if parts == nil {
		return api.Seq{}, api.Fault{Code: api.ErrParse, At: l[stop].At}, x.Rows()
	}
	y := x.Copy()
	var ids []int
	for _, part := range parts {
		s, _ := token.Join(part)
		id, f := syntax.Parse(y, s)
		if f.Code != api.OK {
			return api.Seq{}, api.Fault{Code: f.Code}, x.Rows()
		}
		ids = append(ids, id)
	}
	last := len(ids) - 1
	return seq(ids[last], ids[:last]...), api.Fault{}, y.Rows()
}

// plainPrint says P8.3, but for its limit.
func plainPrint(x *formula.Table, s api.Seq) string {
	var l []string
	for _, id := range leftOf(s) {
		text, _ := syntax.Print(x, id)
		l = append(l, text)
	}
	goal, _ := syntax.Print(x, s.Goal)
	return strings.TrimLeft(strings.Join(l, ", ")+" |- "+goal, " ")
}

// plainTable is a table as layer 3's words say it: a list that is gone through from its beginning.
type plainTable struct{ rows []api.Node }

func (p *plainTable) put(n api.Node) (int, api.Errno) {
	if id := slices.Index(p.rows, n); id >= 0 {
		return id, api.OK
	}
	if len(p.rows) == api.MaxForms {
		return 0, api.ErrForms
	}
	p.rows = append(p.rows, n)
	return len(p.rows) - 1, api.OK
}

// attempt answers what f does, or ErrForms and the rows as they were.
func (p *plainTable) attempt(f func() (int, api.Errno)) (int, api.Errno) {
	before := slices.Clone(p.rows)
	id, e := f()
	if e != api.OK {
		p.rows = before
		return 0, e
	}
	return id, api.OK
}

// all is the formulas of l, joined to the left.
func (p *plainTable) all(l []int) (int, api.Errno) {
	last := len(l) - 1
	if last == 0 {
		return l[0], api.OK
	}
	ahead, e := p.all(l[:last])
	if e != api.OK {
		return 0, e
	}
	return p.put(join(api.KAnd, ahead, l[last]))
}

func (p *plainTable) whole(s api.Seq) (int, api.Errno) {
	left := leftOf(s)
	if len(left) == 0 {
		return s.Goal, api.OK
	}
	return p.attempt(func() (int, api.Errno) {
		a, e := p.all(left)
		if e != api.OK {
			return 0, e
		}
		return p.put(join(api.KImp, a, s.Goal))
	})
}

func (p *plainTable) curry(s api.Seq) (int, api.Errno) {
	var from func(l []int) (int, api.Errno)
	from = func(l []int) (int, api.Errno) {
		if len(l) == 0 {
			return s.Goal, api.OK
		}
		inner, e := from(l[1:])
		if e != api.OK {
			return 0, e
		}
		return p.put(join(api.KImp, l[0], inner))
	}
	return p.attempt(func() (int, api.Errno) { return from(leftOf(s)) })
}

// weight is layer 6's, of a tree in which nothing is shared.
func weight(rows []api.Node, id int) int {
	switch n := rows[id]; n.Kind {
	case api.KAnd:
		return weight(rows, n.L) + weight(rows, n.R) + 2
	case api.KOr, api.KImp:
		return weight(rows, n.L) + weight(rows, n.R) + 1
	}
	return 1
}

// truths are the truth values of all rows, where the atoms with these names are true.
func truths(rows []api.Node, names string) []bool {
	out := make([]bool, len(rows))
	for i, n := range rows {
		switch n.Kind {
		case api.KAtom:
			out[i] = strings.Contains(names, n.Name)
		case api.KAnd:
			out[i] = out[n.L] && out[n.R]
		case api.KOr:
			out[i] = out[n.L] || out[n.R]
		case api.KImp:
			out[i] = !out[n.L] || out[n.R]
		}
	}
	return out
}
