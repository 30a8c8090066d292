package measure_test

import (
	"math/big"
	"slices"

	"dictum/api"
)

// tree is a formula with parts of its own: nothing is shared, so that what stands in several places is gone through in each.
type tree struct {
	id   int
	node api.Node
	l, r *tree
}

func grow(rows []api.Node, id int) *tree {
	n := rows[id]
	if n.Kind == api.KAtom || n.Kind == api.KBot {
		return &tree{id: id, node: n}
	}
	return &tree{id, n, grow(rows, n.L), grow(rows, n.R)}
}

func (x *tree) leaf() bool { return x.l == nil }

func (x *tree) size() int {
	if x.leaf() {
		return 1
	}
	return 1 + x.l.size() + x.r.size()
}

func (x *tree) depth() int {
	if x.leaf() {
		return 0
	}
	return 1 + max(x.l.depth(), x.r.depth())
}

func (x *tree) weight() int {
	switch {
	case x.leaf():
		return 1
	case x.node.Kind == api.KAnd:
		return x.l.weight() + x.r.weight() + 2
	}
	return x.l.weight() + x.r.weight() + 1
}

func (x *tree) grade() int {
	switch {
	case x.leaf():
		return 0
	case x.node.Kind == api.KImp:
		return max(1+x.l.grade(), x.r.grade())
	}
	return max(x.l.grade(), x.r.grade())
}

// walk tells each place of the tree: which formula stands there, and whether positively.
func (x *tree) walk(pos bool, place func(x *tree, pos bool)) {
	place(x, pos)
	if !x.leaf() {
		x.l.walk(pos != (x.node.Kind == api.KImp), place)
		x.r.walk(pos, place)
	}
}

func (x *tree) occurs(part int) (pos, neg int) {
	x.walk(true, func(x *tree, is bool) {
		switch {
		case x.id == part && is:
			pos++
		case x.id == part:
			neg++
		}
	})
	return pos, neg
}

// names answers the names of all atoms, of those that stand positively, and of those that stand negatively.
func (x *tree) names() (all, pos, neg []string) {
	x.walk(true, func(x *tree, is bool) {
		if x.node.Kind != api.KAtom {
			return
		}
		all = append(all, x.node.Name)
		if is {
			pos = append(pos, x.node.Name)
		} else {
			neg = append(neg, x.node.Name)
		}
	})
	once := func(l []string) []string {
		slices.Sort(l)
		return slices.Compact(l)
	}
	return once(all), once(pos), once(neg)
}

// large counts rows one behind the other with numbers that have no end; what Occurs tells is of the formula part.
type large struct{ size, weight, pos, neg []*big.Int }

func reckon(rows []api.Node, part int) large {
	var out large
	one, two := big.NewInt(1), big.NewInt(2)
	add := func(l []*big.Int, parts ...*big.Int) []*big.Int {
		total := new(big.Int)
		for _, p := range parts {
			total.Add(total, p)
		}
		return append(l, total)
	}
	for i, n := range rows {
		self := new(big.Int)
		if i == part {
			self = one
		}
		if n.Kind == api.KAtom || n.Kind == api.KBot {
			out.size, out.weight, out.pos, out.neg = add(out.size, one), add(out.weight, one), add(out.pos, self), add(out.neg)
			continue
		}
		extra, pos, neg := one, out.pos[n.L], out.neg[n.L]
		if n.Kind == api.KAnd {
			extra = two
		}
		if n.Kind == api.KImp {
			pos, neg = neg, pos
		}
		out.size = add(out.size, out.size[n.L], out.size[n.R], one)
		out.weight = add(out.weight, out.weight[n.L], out.weight[n.R], extra)
		out.pos = add(out.pos, pos, out.pos[n.R], self)
		out.neg = add(out.neg, neg, out.neg[n.R])
	}
	return out
}

// ended is a count that ends at MaxCount.
func ended(n *big.Int) int {
	if most := big.NewInt(api.MaxCount); n.Cmp(most) > 0 {
		n = most
	}
	return int(n.Int64())
}

// below is Less by the chapter's words: each way to take numbers out of b is tried.
func below(a, b []int) bool {
	for out := 1; out < 1<<len(b); out++ {
		rest := slices.Clone(a)
		var taken []int
		fits := true
		for i, n := range b {
			if out>>i&1 == 1 {
				taken = append(taken, n)
				continue
			}
			at := slices.Index(rest, n) // what stays in b is in a, too
			if at < 0 {
				fits = false
				break
			}
			rest = slices.Delete(rest, at, at+1)
		}
		lesser := func(n int) bool {
			return slices.ContainsFunc(taken, func(m int) bool { return n < m })
		}
		if fits && !slices.ContainsFunc(rest, func(n int) bool { return !lesser(n) }) {
			return true
		}
	}
	return false
}
