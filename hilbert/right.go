package hilbert

import (
	"dictum/api"
	"dictum/formula"
)

// formsOf answers the formulas of lines.
func formsOf(lines []api.Line) []int {
	var ids []int
	for _, line := range lines {
		ids = append(ids, line.Form)
	}
	return ids
}

// right tells whether each line is (P16.2). All formulas are rows.
func right(t *formula.Table, hyps []int, lines []api.Line) bool {
	given := make([]bool, t.Len()) // of each row whether it is a hypothesis
	for _, id := range hyps {
		given[id] = true
	}
	for i, line := range lines {
		alone := line.A == 0 && line.B == 0
		var ok bool
		switch line.Kind {
		case api.LineMP:
			ok = follows(t, lines[:i], line)
		case api.LineHyp:
			ok = alone && given[line.Form]
		default:
			ok = alone && isAxiom(t, line.Kind, line.Form)
		}
		if !ok {
			return false
		}
	}
	return true
}

// follows tells whether a line of LineMP follows of lines ahead of it.
func follows(t *formula.Table, ahead []api.Line, line api.Line) bool {
	if line.A < 0 || line.A >= len(ahead) || line.B < 0 || line.B >= len(ahead) {
		return false
	}
	n, _ := t.Node(ahead[line.A].Form)
	return n == api.Node{Kind: api.KImp, L: ahead[line.B].Form, R: line.Form}
}
