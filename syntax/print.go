package syntax

import (
	"strings"

	"dictum/api"
	"dictum/formula"
)

// The levels of the grammar, by what binds a part of a text together.
const (
	levelImp    = 1
	levelOr     = 2
	levelAnd    = 3
	levelSingle = 4
)

// printer writes formulas of a table.
type printer struct{ table *formula.Table }

// Print writes a formula (P4.4).
func Print(t *formula.Table, id int) (string, api.Errno) {
	below, e := t.Below(id)
	if e != api.OK {
		return "", e
	}
	p := printer{table: t}
	if p.size(below) > api.MaxText {
		return "", api.ErrLong
	}
	var out strings.Builder
	var write func(id int)
	write = func(id int) {
		p.walk(id, func(s string) { out.WriteString(s) }, write)
	}
	write(id)
	return out.String(), api.OK
}

// size tells how many bytes the text of the last of these formulas has; below are all of which it is made, rising. A text that is too long is told as one byte too long: shared parts double it with each row, past what an int holds.
func (p printer) size(below []int) int {
	id := below[len(below)-1]
	sizes := make([]int, id+1)
	for _, i := range below {
		size := 0
		p.walk(i, func(s string) { size += len(s) }, func(part int) { size += sizes[part] })
		sizes[i] = min(size, api.MaxText+1)
	}
	return sizes[id]
}

// walk goes through a formula's text from left to right: pieces of text are handed to text, its parts to part.
func (p printer) walk(id int, text func(string), part func(int)) {
	enclose := func(id int, least int) {
		if p.level(id) >= least {
			part(id)
			return
		}
		text("(")
		part(id)
		text(")")
	}
	n, _ := p.table.Node(id)
	switch {
	case n.Kind == api.KAtom:
		text(n.Name)
	case n.Kind == api.KBot:
		text("false")
	case p.isTrue(n):
		text("true")
	case p.isNot(n):
		text("~")
		enclose(n.L, levelSingle)
	default:
		level := p.level(id)
		// & and | group to the left, -> to the right: the other side must bind closer than the sign itself.
		left, right := level, level+1
		if n.Kind == api.KImp {
			left, right = right, left
		}
		enclose(n.L, left)
		text(sign(n.Kind))
		enclose(n.R, right)
	}
}

// level tells how close a formula's text is bound together.
func (p printer) level(id int) int {
	n, _ := p.table.Node(id)
	switch {
	case n.Kind == api.KAnd:
		return levelAnd
	case n.Kind == api.KOr:
		return levelOr
	case n.Kind == api.KImp && !p.isNot(n):
		return levelImp
	}
	return levelSingle
}

// isNot tells whether a row is one of A -> false; true is one of these.
func (p printer) isNot(n api.Node) bool {
	return n.Kind == api.KImp && p.isFalse(n.R)
}

// isTrue tells whether a row is false -> false.
func (p printer) isTrue(n api.Node) bool {
	return p.isNot(n) && n.L == n.R
}

func (p printer) isFalse(id int) bool {
	n, _ := p.table.Node(id)
	return n.Kind == api.KBot
}

// sign is what stands between the two parts of a formula of that kind.
func sign(k api.Kind) string {
	switch k {
	case api.KAnd:
		return " & "
	case api.KOr:
		return " | "
	}
	return " -> "
}
