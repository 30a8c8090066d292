package hilbert_test

import (
	"slices"
	"strconv"
	"testing"

	"dictum/api"
	"dictum/formula"
	"dictum/syntax"
	"dictum/term"
	"dictum/types"
)

// plain reads the chapter as it stands, with a table of its own. What has no room is given up by a panic with the error.
type plain struct {
	t    *testing.T
	rows []api.Node
	at   map[api.Node]int
}

func newPlain(t *testing.T, rows []api.Node) *plain {
	p := &plain{t, slices.Clone(rows), map[api.Node]int{}}
	for i, n := range rows {
		p.at[n] = i
	}
	return p
}

func (p *plain) put(n api.Node) int {
	if at, ok := p.at[n]; ok {
		return at
	}
	if len(p.rows) == 1024 {
		panic(api.ErrForms)
	}
	p.at[n] = len(p.rows)
	p.rows = append(p.rows, n)
	return len(p.rows) - 1
}

// stand are the formulas for which the letters of a text stand.
type stand map[string]int

// made is the formula of one of the chapter's texts, of which the parts become rows: the left one, the right one, then the whole.
func (p *plain) made(text string, by stand) int {
	pattern := patternOf(text)
	var walk func(id int) int
	walk = func(id int) int {
		n := pattern[id]
		if n.Kind == api.KAtom {
			stands, ok := by[n.Name]
			if !ok {
				p.t.Fatalf("%q: nothing for %s", text, n.Name)
			}
			return stands
		}
		if n.Kind != api.KBot {
			n.L = walk(n.L)
			n.R = walk(n.R)
		}
		return p.put(n)
	}
	return walk(len(pattern) - 1)
}

// patterns are the rows of texts that were read.
var patterns = map[string][]api.Node{}

// patternOf are the rows of a text, the last one its own.
func patternOf(text string) []api.Node {
	if rows, ok := patterns[text]; ok {
		return rows
	}
	f := formula.New()
	if id, fault := syntax.Parse(f, text); fault.Code != api.OK || id != f.Len()-1 {
		panic(text)
	}
	patterns[text] = f.Rows()
	return patterns[text]
}

// schemes are those of package api's remarks.
func schemes() map[api.LineKind]string {
	return map[api.LineKind]string{
		api.LineK:    "A -> (B -> A)",
		api.LineS:    "(A -> (B -> C)) -> ((A -> B) -> (A -> C))",
		api.LineFst:  "A & B -> A",
		api.LineSnd:  "A & B -> B",
		api.LinePair: "A -> (B -> A & B)",
		api.LineInl:  "A -> A | B",
		api.LineInr:  "B -> A | B",
		api.LineCase: "(A -> C) -> ((B -> C) -> (A | B -> C))",
		api.LineBot:  "false -> A",
	}
}

// fits tells whether a formula of a table is a text's, for some formulas in the place of its letters.
func fits(rows []api.Node, id int, text string) bool {
	pattern := patternOf(text)
	by := stand{}
	var walk func(at, id int) bool
	walk = func(at, id int) bool {
		n := pattern[at]
		if n.Kind == api.KAtom {
			was, bound := by[n.Name]
			by[n.Name] = id
			return !bound || was == id
		}
		if rows[id].Kind != n.Kind {
			return false
		}
		return n.Kind == api.KBot || walk(n.L, rows[id].L) && walk(n.R, rows[id].R)
	}
	return walk(len(pattern)-1, id)
}

// plainIs is P16.1.
func plainIs(rows []api.Node, k api.LineKind, id int) bool {
	text, ok := schemes()[k]
	return ok && fits(rows, id, text)
}

// plainCheck is P16.2.
func plainCheck(rows []api.Node, hyps []int, lines []api.Line) api.Errno {
	is := func(id int) bool { return 0 <= id && id < len(rows) }
	for _, id := range hyps {
		if !is(id) {
			return api.ErrForm
		}
	}
	for _, l := range lines {
		if !is(l.Form) {
			return api.ErrForm
		}
	}
	if len(lines) == 0 {
		return api.ErrProof
	}
	for i, l := range lines {
		ok := false
		switch l.Kind {
		case api.LineMP:
			ok = 0 <= l.A && l.A < i && 0 <= l.B && l.B < i && rows[lines[l.A].Form] == join(api.KImp, lines[l.B].Form, l.Form)
		case api.LineHyp:
			ok = l.A == 0 && l.B == 0 && slices.Contains(hyps, l.Form)
		default:
			ok = l.A == 0 && l.B == 0 && plainIs(rows, l.Kind, l.Form)
		}
		if !ok {
			return api.ErrProof
		}
	}
	return api.OK
}

// list are lines behind each other; one that is too many is given up.
type list struct {
	p     *plain
	lines []api.Line
}

func (l *list) put(one api.Line) int {
	if len(l.lines) == 4096 {
		panic(api.ErrBig)
	}
	l.lines = append(l.lines, one)
	return len(l.lines) - 1
}

// axiom is a line with the formula of a text.
func (l *list) axiom(k api.LineKind, text string, by stand) int {
	form := l.p.made(text, by)
	return l.put(line(k, form))
}

// mp is the line of the right part of line a's formula.
func (l *list) mp(a, b int) int {
	n := l.p.rows[l.lines[a].Form]
	if n.Kind != api.KImp || n.L != l.lines[b].Form {
		l.p.t.Fatalf("line %d of %s does not follow", len(l.lines), showLines(l.lines))
	}
	return l.put(mp(n.R, a, b))
}

// then puts a whole list behind, its numbers shifted; that is refused at once, if they are too many together.
func (l *list) then(more []api.Line) int {
	from := len(l.lines)
	if from+len(more) > 4096 {
		panic(api.ErrBig)
	}
	for _, one := range more {
		if one.Kind == api.LineMP {
			one.A += from
			one.B += from
		}
		l.put(one)
	}
	return len(l.lines) - 1
}

// deduce is P16.3, of right lines.
func (p *plain) deduce(lines []api.Line, h int) []api.Line {
	l := &list{p: p}
	var image []int
	for _, one := range lines {
		x := one.Form
		at := 0
		if x == h {
			s := l.axiom(api.LineS, "(h -> ((h -> h) -> h)) -> ((h -> (h -> h)) -> (h -> h))", stand{"h": h})
			k := l.axiom(api.LineK, "h -> ((h -> h) -> h)", stand{"h": h})
			both := l.mp(s, k)
			k = l.axiom(api.LineK, "h -> (h -> h)", stand{"h": h})
			at = l.mp(both, k)
		} else if one.Kind != api.LineMP {
			ahead := l.put(one)
			k := l.axiom(api.LineK, "X -> (h -> X)", stand{"h": h, "X": x})
			at = l.mp(k, ahead)
		} else {
			s := l.axiom(api.LineS, "(h -> (Y -> X)) -> ((h -> Y) -> (h -> X))", stand{"h": h, "X": x, "Y": lines[one.B].Form})
			this := l.mp(s, image[one.A])
			at = l.mp(this, image[one.B])
		}
		image = append(image, at)
	}
	return l.lines
}

// giving is what is left of a call on a plain table: what it made, or the error by which it was given up, with the rows as they were.
func (p *plain) giving(call func() []api.Line) (lines []api.Line, e api.Errno) {
	was := newPlain(p.t, p.rows)
	defer func() {
		if r := recover(); r != nil {
			*p, lines, e = *was, nil, r.(api.Errno)
		}
	}()
	return call(), api.OK
}

// plainDeduce is P16.3, and the rows that the table has behind it.
func plainDeduce(t *testing.T, rows []api.Node, hyps []int, lines []api.Line, h int) ([]api.Line, []api.Node, api.Errno) {
	t.Helper()
	if h < 0 || h >= len(rows) {
		return nil, rows, api.ErrForm
	}
	if e := plainCheck(rows, hyps, lines); e != api.OK {
		return nil, rows, e
	}
	p := newPlain(t, rows)
	l, e := p.giving(func() []api.Line { return p.deduce(lines, h) })
	return l, p.rows, e
}

// context is where a term stands: its hypotheses, and a table of which layer 13 tells.
type context struct {
	*plain
	table *formula.Table
	hyps  []api.Hyp
}

// with is the context with a hypothesis more.
func (c context) with(name string, form int) context {
	c.hyps = append(slices.Clone(c.hyps), named(name, form))
	return c
}

// told is what layer 13 tells of a part.
func (c context) told(x api.Term) int {
	id, e := types.Infer(c.table, c.hyps, x)
	if e != api.OK {
		c.t.Fatalf("Infer(%v, %s): error %d", c.hyps, show(x), e)
	}
	return id
}

// of are the lines of a term of F.
func (c context) of(x api.Term, f int) []api.Line {
	l := &list{p: c.plain}
	n := c.rows[f]
	part := func(i int, form int) int { return l.then(c.of(x.Sub[i], form)) }
	step := func(k api.LineKind, i int, form int, text string) {
		last := part(i, form)
		l.mp(l.axiom(k, text, stand{"P": form, "F": f}), last)
	}
	switch x.Kind {
	case api.TVar:
		l.put(hyp(f))
	case api.TThe:
		part(0, f)
	case api.TLam:
		l.then(c.deduce(c.with(x.Name, n.L).of(x.Sub[0], n.R), n.L))
	case api.TApp:
		form := c.told(x.Sub[0])
		a := part(0, form)
		b := part(1, c.rows[form].L)
		l.mp(a, b)
	case api.TPair:
		a := part(0, n.L)
		b := part(1, n.R)
		pair := l.axiom(api.LinePair, "A -> (B -> F)", stand{"A": n.L, "B": n.R, "F": f})
		l.mp(l.mp(pair, a), b)
	case api.TFst:
		step(api.LineFst, 0, c.told(x.Sub[0]), "P -> F")
	case api.TSnd:
		step(api.LineSnd, 0, c.told(x.Sub[0]), "P -> F")
	case api.TInl:
		step(api.LineInl, 0, n.L, "P -> F")
	case api.TInr:
		step(api.LineInr, 0, n.R, "P -> F")
	case api.TAbort:
		step(api.LineBot, 0, c.told(x.Sub[0]), "false -> F")
	case api.TCase:
		c.ofCase(l, x, f)
	case api.TLet:
		form := c.told(x.Sub[0])
		a := part(0, form)
		l.mp(l.then(c.deduce(c.with(x.Name, form).of(x.Sub[1], f), form)), a)
	default:
		c.t.Fatalf("kind %d", x.Kind)
	}
	return l.lines
}

func (c context) ofCase(l *list, x api.Term, f int) {
	form := c.told(x.Sub[0])
	n := c.rows[form]
	a := l.then(c.of(x.Sub[0], form))
	second := l.then(c.deduce(c.with(x.Name, n.L).of(x.Sub[1], f), n.L))
	third := l.then(c.deduce(c.with(x.Other, n.R).of(x.Sub[2], f), n.R))
	whole := l.axiom(api.LineCase, "(A -> F) -> ((B -> F) -> (A | B -> F))", stand{"A": n.L, "B": n.R, "F": f})
	l.mp(l.mp(l.mp(whole, second), third), a)
}

// plainCompile is P16.4, and the rows that the table has behind it.
func plainCompile(t *testing.T, f *formula.Table, hyps []api.Hyp, x api.Term, id int) ([]api.Line, []api.Node, api.Errno) {
	t.Helper()
	if e := types.Check(f, hyps, x, id); e != api.OK {
		return nil, f.Rows(), e
	}
	p := newPlain(t, f.Rows())
	l, e := p.giving(func() []api.Line { return context{p, f.Copy(), hyps}.of(x, id) })
	return l, p.rows, e
}

// plainTerm is P16.5, of right lines: a text, which layer 12 reads. An atom f7 stands there for the formula 7.
func plainTerm(t *testing.T, lines []api.Line) api.Term {
	t.Helper()
	texts := map[api.LineKind]string{
		api.LineK: "fun a => fun b => a", api.LineS: "fun a => fun b => fun c => a c (b c)",
		api.LineFst: "fun a => fst a", api.LineSnd: "fun a => snd a", api.LinePair: "fun a => fun b => (a, b)",
		api.LineInl: "fun a => inl a", api.LineInr: "fun a => inr a",
		api.LineCase: "fun a => fun b => fun c => case c of d => a d | e => b e", api.LineBot: "fun a => abort a",
	}
	l := func(at int) string { return "l" + strconv.Itoa(at) }
	text := ""
	for i, one := range lines {
		text += "let " + l(i) + " = "
		switch one.Kind {
		case api.LineHyp:
			text += "h" + strconv.Itoa(one.Form)
		case api.LineMP:
			text += l(one.A) + " " + l(one.B)
		default:
			text += "(" + texts[one.Kind] + " : f" + strconv.Itoa(one.Form) + ")"
		}
		text += " in "
	}
	f := formula.New()
	x, fault := term.Parse(f, text+l(len(lines)-1))
	if fault.Code != api.OK {
		t.Fatalf("%.300q: error %d at %v", text, fault.Code, fault.At)
	}
	return numbered(f, x)
}

// numbered is a term with the formula 7 beside where it had the atom f7.
func numbered(f *formula.Table, x api.Term) api.Term {
	if x.Kind == api.TThe {
		n, _ := f.Node(x.Form)
		x.Form, _ = strconv.Atoi(n.Name[1:])
	}
	for i, part := range x.Sub {
		x.Sub[i] = numbered(f, part)
	}
	return x
}
