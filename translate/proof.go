package translate

import (
	"dictum/api"
	"dictum/formula"
)

// most is where the counts of nodes and levels end.
const most = 1<<31 - 1

// proof is a list of right steps, and their table.
type proof struct {
	table *formula.Table
	steps []api.Step
}

// extent is how large a term is.
type extent struct {
	nodes  int
	levels int
}

// extentOf tells how large the term of a proved step is. A step's term is counted once, however often it stands in others: written out it may be more than anybody could go through.
func (p proof) extentOf(at int) extent {
	known := make([]extent, at+1)
	for i, step := range p.steps[:at+1] {
		if step.Proved {
			known[i] = measured(frame(p.table, step), step.Kids, known)
		}
	}
	return known[at]
}

// measured tells how large a frame is with the terms of these kids in its gaps.
func measured(x api.Term, kids []int, known []extent) extent {
	if x.Kind == gapKind {
		return known[kids[x.Form]]
	}
	var parts []extent
	for _, part := range x.Sub {
		parts = append(parts, measured(part, kids, known))
	}
	return joined(parts...)
}

// joined tells how large a term of such parts is.
func joined(parts ...extent) extent {
	whole := extent{nodes: 1}
	for _, part := range parts {
		whole.nodes = min(whole.nodes+part.nodes, most)
		whole.levels = max(whole.levels, part.levels)
	}
	whole.levels = min(whole.levels+1, most)
	return whole
}

// termOf answers the term of a proved step. Each place where a step is a kid gets a term of its own.
func (p proof) termOf(at int) api.Term {
	for p.steps[at].Rule == api.RuleImpBot { // adds no level, so that such steps may be far more than a term has levels
		at = p.steps[at].Kids[0]
	}
	return p.filled(frame(p.table, p.steps[at]), p.steps[at].Kids)
}

// filled puts the terms of these kids into the gaps of a frame that nobody else holds.
func (p proof) filled(x api.Term, kids []int) api.Term {
	if x.Kind == gapKind {
		return p.termOf(kids[x.Form])
	}
	for i, part := range x.Sub {
		x.Sub[i] = p.filled(part, kids)
	}
	return x
}
