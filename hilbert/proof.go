package hilbert

import (
	"dictum/api"
	"dictum/formula"
)

// maker makes proofs, and rows of a table for their formulas, within one call. Why something had no room is kept in e, and nothing is made behind that.
type maker struct {
	table *formula.Table
	rows  int // how many the table had
	e     api.Errno
}

func newMaker(t *formula.Table) *maker { return &maker{table: t, rows: t.Len()} }

// ended answers the lines that the call was asked for; or why there are none, with the table put back.
func (m *maker) ended(p *proof) ([]api.Line, api.Errno) {
	if m.e != api.OK {
		m.table.Cut(m.rows)
		return nil, m.e
	}
	return p.lines, api.OK
}

// put answers the number of a formula, which becomes a row, if it is none yet.
func (m *maker) put(f form) int {
	if m.e != api.OK {
		return 0
	}
	id, ok := f(func(n api.Node) (int, bool) {
		id, e := m.table.Put(n)
		return id, e == api.OK
	})
	if !ok { // what is made of rows is refused for want of room alone
		m.e = api.ErrForms
	}
	return id
}

// parts answers those of a formula.
func (m *maker) parts(id int) (left int, right int) {
	n, _ := m.table.Node(id)
	return n.L, n.R
}

// proof is a list of lines that is being made.
type proof struct {
	*maker
	lines []api.Line
}

func (m *maker) begin() *proof { return &proof{maker: m} }

// last answers the number of the last line.
func (p *proof) last() int { return len(p.lines) - 1 }

// formOf answers the formula of a line.
func (p *proof) formOf(at int) int {
	if p.e != api.OK {
		return 0
	}
	return p.lines[at].Form
}

// behind puts items behind a list, each as turned answers it.
func behind[T any](list []T, more []T, turned func(T) T) []T {
	for _, item := range more {
		list = append(list, turned(item))
	}
	return list
}

// add puts lines behind the others, each as turned answers it, and answers the last one's number.
func (p *proof) add(more []api.Line, turned func(api.Line) api.Line) int {
	if p.e == api.OK && len(p.lines)+len(more) > api.MaxLines {
		p.e = api.ErrBig
	}
	if p.e == api.OK {
		p.lines = behind(p.lines, more, turned)
	}
	return p.last()
}

// join puts the lines of another proof behind, whose numbers are counted on.
func (p *proof) join(q *proof) int {
	from := len(p.lines)
	return p.add(q.lines, func(l api.Line) api.Line {
		if l.Kind == api.LineMP {
			l.A, l.B = l.A+from, l.B+from
		}
		return l
	})
}

// line puts a line behind the others.
func (p *proof) line(l api.Line) int {
	return p.add([]api.Line{l}, func(l api.Line) api.Line { return l })
}

// axiom puts an axiom, its formula ahead of its line.
func (p *proof) axiom(k api.LineKind, ids ...int) int {
	id := p.put(scheme(k, ids...))
	return p.line(api.Line{Kind: k, Form: id})
}

// mp puts what follows of line a, an implication, and line b.
func (p *proof) mp(a int, b int) int {
	_, follows := p.parts(p.formOf(a))
	return p.line(api.Line{Kind: api.LineMP, Form: follows, A: a, B: b})
}

// on goes on from the last line by an axiom.
func (p *proof) on(k api.LineKind, ids ...int) *proof {
	given := p.last()
	p.mp(p.axiom(k, ids...), given)
	return p
}
