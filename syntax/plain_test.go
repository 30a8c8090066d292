package syntax_test

import (
	"slices"
	"strings"

	"dictum/api"
	"dictum/formula"
	"dictum/token"
)

// many is a list of one token so many times.
func many(n int, k api.Token) []api.Token { return slices.Repeat([]api.Token{k}, n) }

func plainCounts(k api.Token) bool {
	return k.Kind == api.TokenName || k.Kind == api.TokenSign && slices.Contains(strings.Fields("~ & | -> <->"), k.Text)
}

// plainStop goes through tokens with no more than whether a part is awaited and how many parentheses are open: the place of the first token with which no formula can go on, or where it ended; and whether what stands ahead of that is a formula.
func plainStop(l []api.Token) (int, bool) {
	awaited, open := true, 0
	for i, k := range l {
		is := func(s string) bool { return k.Kind == api.TokenSign && k.Text == s }
		switch {
		case awaited && is("~"):
		case awaited && is("(") && open < 1024:
			open++
		case awaited && k.Kind == api.TokenName && (k.Text == "true" || k.Text == "false" || formula.Word(k.Text)):
			awaited = false
		case !awaited && (is("&") || is("|") || is("->") || is("<->")):
			awaited = true
		case !awaited && open > 0 && is(")"):
			open--
		default:
			return i, !awaited && open == 0
		}
	}
	return len(l), !awaited && open == 0
}

// plainPut puts tokens that are a formula, by the sign that binds least and stands in no parentheses.
func plainPut(x *formula.Table, l []api.Token) (int, api.Errno) {
	for _, s := range []string{"<->", "->", "|", "&"} {
		if i := split(l, s); i >= 0 {
			return plainJoin(x, s, l[:i], l[i+1:])
		}
	}
	switch l[0].Text {
	case "~":
		a, e := plainPut(x, l[1:])
		return then(e, func() (int, api.Errno) { return x.Not(a) })
	case "(":
		return plainPut(x, l[1:len(l)-1])
	case "false":
		return x.Bot()
	case "true":
		a, e := x.Bot()
		return then(e, func() (int, api.Errno) { return x.Imp(a, a) })
	}
	return x.Atom(l[0].Text)
}

// split is the place of a sign outside of all parentheses: the last one of those that group to the left, else the first one; or -1.
func split(l []api.Token, s string) int {
	open, found := 0, -1
	for i, k := range l {
		switch {
		case k.Text == "(":
			open++
		case k.Text == ")":
			open--
		case k.Text == s && open == 0 && (found < 0 || s == "&" || s == "|"):
			found = i
		}
	}
	return found
}

func plainJoin(x *formula.Table, s string, l, r []api.Token) (int, api.Errno) {
	a, e := plainPut(x, l)
	if e != api.OK {
		return 0, e
	}
	b, e := plainPut(x, r)
	if e != api.OK {
		return 0, e
	}
	switch s {
	case "&":
		return x.And(a, b)
	case "|":
		return x.Or(a, b)
	case "->":
		return x.Imp(a, b)
	}
	c, e := x.Imp(a, b)
	if e != api.OK {
		return 0, e
	}
	d, e := x.Imp(b, a)
	return then(e, func() (int, api.Errno) { return x.And(c, d) })
}

// then goes on, if nothing was wrong.
func then(e api.Errno, f func() (int, api.Errno)) (int, api.Errno) {
	if e != api.OK {
		return 0, e
	}
	return f()
}

// plainParse says P4.2: what Parse answers, and the table's rows behind it.
func plainParse(x *formula.Table, s string) (int, api.Fault, []api.Node) {
	l, f := token.Scan(s)
	spoiled := f.Code != api.OK
	if spoiled {
		l, _ = token.Scan(s[:f.At.Off])
	}
	n := 0
	for _, k := range l {
		if plainCounts(k) {
			if n++; n == 513 {
				return 0, api.Fault{Code: api.ErrTooBig, At: k.At}, x.Rows()
			}
		}
	}
	stop, whole := plainStop(l)
	if !whole || stop < len(l)-1 || spoiled {
		return 0, api.Fault{Code: api.ErrParse, At: l[stop].At}, x.Rows()
	}
	return plainEnd(x, l[:stop])
}

// plainEnd puts what was read whole into a copy of the table.
func plainEnd(x *formula.Table, l []api.Token) (int, api.Fault, []api.Node) {
	y := x.Copy()
	id, e := plainPut(y, l)
	if e != api.OK {
		return 0, api.Fault{Code: e}, x.Rows()
	}
	return id, api.Fault{}, y.Rows()
}

// plainTake says P4.3: what Take answers, and the table's rows behind it.
func plainTake(x *formula.Table, l []api.Token) (int, int, api.Fault, []api.Node) {
	stop, whole := plainStop(l)
	looked := l[:stop]
	if !whole && stop < len(l) {
		looked = l[:stop+1]
	}
	n := 0
	for _, k := range looked {
		if plainCounts(k) {
			if n++; n == 513 {
				return 0, 0, api.Fault{Code: api.ErrTooBig, At: k.At}, x.Rows()
			}
		}
	}
	if !whole && stop == len(l) {
		return 0, 0, api.Fault{Code: api.ErrParse}, x.Rows()
	}
	if !whole {
		return 0, 0, api.Fault{Code: api.ErrParse, At: l[stop].At}, x.Rows()
	}
	id, f, rows := plainEnd(x, l[:stop])
	if f.Code != api.OK {
		stop = 0
	}
	return id, stop, f, rows
}

// plainPrint says P4.4, but for its limit.
func plainPrint(x *formula.Table, id int) string {
	n, _ := x.Node(id)
	part := func(id int, enclosed string) string {
		s := plainPrint(x, id)
		if slices.Contains(strings.Fields(enclosed), plainForm(x, id)) {
			return "(" + s + ")"
		}
		return s
	}
	switch plainForm(x, id) {
	case "~":
		return "~" + part(n.L, "& | ->")
	case "&":
		return part(n.L, "| ->") + " & " + part(n.R, "& | ->")
	case "|":
		return part(n.L, "->") + " | " + part(n.R, "| ->")
	case "->":
		return part(n.L, "->") + " -> " + part(n.R, "")
	case "false", "true":
		return plainForm(x, id)
	}
	return n.Name
}

// plainForm is the sign, or the word, of a formula's text; "" of an atom.
func plainForm(x *formula.Table, id int) string {
	n, _ := x.Node(id)
	l, _ := x.Node(n.L)
	r, _ := x.Node(n.R)
	switch {
	case n.Kind == api.KBot:
		return "false"
	case n.Kind == api.KAnd:
		return "&"
	case n.Kind == api.KOr:
		return "|"
	case n.Kind == api.KImp && r.Kind != api.KBot:
		return "->"
	case n.Kind == api.KImp && l.Kind == api.KBot:
		return "true"
	case n.Kind == api.KImp:
		return "~"
	}
	return ""
}
