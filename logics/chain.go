package logics

import (
	"iter"
	"slices"

	"dictum/api"
	"dictum/formula"
)

// byName answers truth values from 0 to n by their names; false, if there are no such, one is none, or two have one name.
func byName(n int, by []api.Hyp) (map[string]int, bool) {
	if n < 1 || n > api.MaxTruth {
		return nil, false
	}
	values := make(map[string]int, len(by))
	ok := every(by, func(h api.Hyp) bool {
		_, twice := values[h.Name]
		values[h.Name] = h.Form
		return !twice && h.Form >= 0 && h.Form <= n
	})
	return values, ok
}

// valuing answers what tells a formula's truth value from 0 to n by its atoms' values. Each part is reckoned once a time: it may stand in more places than anybody could go through.
func valuing(t *formula.Table, id int, n int) func(by map[string]int) int {
	below, _ := t.Below(id)
	rows := make([]api.Node, id+1)
	for _, part := range below {
		rows[part], _ = t.Node(part)
	}
	values := make([]int, id+1)
	return func(by map[string]int) int {
		for _, part := range below {
			row := rows[part]
			if row.Kind == api.KAtom {
				values[part] = by[row.Name]
			} else {
				values[part] = joined(row.Kind, values[row.L], values[row.R], n)
			}
		}
		return values[id]
	}
}

// joined answers the truth value of what is no atom by its parts' values; false has none.
func joined(kind api.Kind, l, r, n int) int {
	switch kind {
	case api.KAnd:
		return min(l, r)
	case api.KOr:
		return max(l, r)
	case api.KImp:
		if l <= r {
			return n
		}
		return r
	}
	return 0
}

// valuations goes through the truth values from 0 to n of some names, the last one's changing first. What it hands on is one map, which it goes on with.
func valuations(names []string, n int) iter.Seq[map[string]int] {
	many := 1
	for range names {
		many *= n + 1
	}
	return func(yield func(map[string]int) bool) {
		values := map[string]int{}
		for number := range many {
			for _, name := range slices.Backward(names) {
				values[name] = number % (n + 1)
				number /= n + 1
			}
			if !yield(values) {
				return
			}
		}
	}
}

// told answers the values of some names as a list.
func told(names []string, values map[string]int) []api.Hyp {
	var by []api.Hyp
	for _, name := range names {
		by = append(by, api.Hyp{Name: name, Form: values[name]})
	}
	return by
}

// chain answers the model of n worlds in a row in which each atom is true in as many worlds as its value says.
func chain(n int, names []string, values map[string]int) api.Model {
	m := api.Model{Up: make([][]int, n), Val: make([][]string, n)}
	for w := range n {
		if w+1 < n {
			m.Up[w] = []int{w + 1}
		}
		for _, name := range names {
			if w >= n-values[name] {
				m.Val[w] = append(m.Val[w], name)
			}
		}
	}
	return m
}
