package interp_test

import (
	"slices"
	"strconv"
	"testing"

	"dictum/api"
	"dictum/formula"
	"dictum/search"
)

// plain tells what is left of formulas without p as Pitts' own table does: of every formula of a left side what its rule says, joined by and, or by or; nothing is taken out ahead of the others, and nothing is left away but what is plainly true or false.
type plain struct {
	t    *testing.T
	x    *formula.Table
	told map[string]int
	full bool
}

func (q *plain) put(n api.Node) int {
	id, e := q.x.Put(n)
	q.full = q.full || e != api.OK
	return id
}

func (q *plain) bot() int { return q.put(bot()) }

func (q *plain) top() int { return q.put(join(api.KImp, q.bot(), q.bot())) }

func (q *plain) and(l, r int) int {
	switch {
	case l == q.bot() || r == q.top() || l == r:
		return l
	case r == q.bot() || l == q.top():
		return r
	}
	return q.put(join(api.KAnd, l, r))
}

func (q *plain) or(l, r int) int {
	switch {
	case l == q.top() || r == q.bot() || l == r:
		return l
	case r == q.top() || l == q.bot():
		return r
	}
	return q.put(join(api.KOr, l, r))
}

func (q *plain) imp(l, r int) int {
	switch {
	case l == q.bot() || r == q.top() || l == r:
		return q.top()
	case l == q.top():
		return r
	}
	return q.put(join(api.KImp, l, r))
}

// key is a left side, rising, and what else is asked, as a text.
func key(left []int, more string) string {
	for _, id := range left {
		more += " " + strconv.Itoa(id)
	}
	return more
}

// set is a left side with more formulas and without one.
func set(left []int, f int, more ...int) []int {
	l := append(slices.Clone(left), more...)
	l = slices.DeleteFunc(l, func(g int) bool { return g == f })
	slices.Sort(l)
	return slices.Compact(l)
}

func (q *plain) kept(k string, tell func() int) int {
	if q.full {
		return 0
	}
	id, ok := q.told[k]
	if !ok {
		id = tell()
		q.told[k] = id
	}
	return id
}

// exists is Pitts' E of a left side.
func (q *plain) exists(left []int) int {
	return q.kept(key(left, "E"), func() int {
		id := q.top()
		for _, f := range left {
			id = q.and(id, q.existsBy(left, f))
		}
		return id
	})
}

func (q *plain) existsBy(left []int, f int) int {
	n, _ := q.x.Node(f)
	next := func(more ...int) int { return q.exists(set(left, f, more...)) }
	switch n.Kind {
	case api.KBot:
		return q.bot()
	case api.KAtom:
		if n.Name == "p" {
			return q.top()
		}
		return q.and(f, next())
	case api.KAnd:
		return next(n.L, n.R)
	case api.KOr:
		return q.or(next(n.L), next(n.R))
	}
	l, _ := q.x.Node(n.L)
	switch {
	case l.Kind == api.KAtom && l.Name != "p":
		return q.imp(n.L, next(n.R))
	case l.Kind == api.KAtom && slices.Contains(left, n.L):
		return next(n.R)
	case l.Kind == api.KAnd:
		return next(q.put(join(api.KImp, l.L, q.put(join(api.KImp, l.R, n.R)))))
	case l.Kind == api.KOr:
		return next(q.put(join(api.KImp, l.L, n.R)), q.put(join(api.KImp, l.R, n.R)))
	case l.Kind == api.KImp:
		first := set(left, f, q.put(join(api.KImp, l.R, n.R)))
		return q.imp(q.imp(q.exists(first), q.forall(first, n.L)), next(n.R))
	}
	return q.top()
}

// forall is Pitts' A of a left side and a goal.
func (q *plain) forall(left []int, goal int) int {
	return q.kept(key(left, "A"+strconv.Itoa(goal)+":"), func() int {
		id := q.forallGoal(left, goal)
		for _, f := range left {
			id = q.or(id, q.forallBy(left, f, goal))
		}
		return id
	})
}

func (q *plain) forallGoal(left []int, goal int) int {
	n, _ := q.x.Node(goal)
	switch {
	case n.Kind == api.KAnd:
		return q.and(q.forall(left, n.L), q.forall(left, n.R))
	case n.Kind == api.KOr:
		return q.or(q.forall(left, n.L), q.forall(left, n.R))
	case n.Kind == api.KImp:
		with := set(left, -1, n.L)
		return q.imp(q.exists(with), q.forall(with, n.R))
	case n.Name == "p" && slices.Contains(left, goal):
		return q.top()
	case n.Kind == api.KAtom && n.Name != "p":
		return goal
	}
	return q.bot()
}

func (q *plain) forallBy(left []int, f int, goal int) int {
	n, _ := q.x.Node(f)
	next := func(more ...int) int { return q.forall(set(left, f, more...), goal) }
	each := func(part int) int { return q.imp(q.exists(set(left, f, part)), next(part)) }
	switch n.Kind {
	case api.KBot, api.KAtom:
		return q.bot()
	case api.KAnd:
		return next(n.L, n.R)
	case api.KOr:
		return q.and(each(n.L), each(n.R))
	}
	l, _ := q.x.Node(n.L)
	switch {
	case l.Kind == api.KAtom && l.Name != "p":
		return q.and(n.L, next(n.R))
	case l.Kind == api.KAtom && slices.Contains(left, n.L):
		return next(n.R)
	case l.Kind == api.KAnd:
		return next(q.put(join(api.KImp, l.L, q.put(join(api.KImp, l.R, n.R)))))
	case l.Kind == api.KOr:
		return next(q.put(join(api.KImp, l.L, n.R)), q.put(join(api.KImp, l.R, n.R)))
	case l.Kind == api.KImp:
		first := set(left, f, q.put(join(api.KImp, l.R, n.R)))
		return q.and(q.imp(q.exists(first), q.forall(first, n.L)), next(n.R))
	}
	return q.bot()
}

// holdPlain is P25.2 of a formula, held against the plain reading. It tells whether that has come to an end.
func holdPlain(t *testing.T, f *tree, all bool) bool {
	t.Helper()
	x := formula.New()
	id := put(t, x, f)
	k := holdOver(t, x, id, all)
	q := &plain{t: t, x: x, told: map[string]int{}}
	var want int
	if all {
		want = q.forall(nil, id)
	} else {
		want = q.exists([]int{id})
	}
	if q.full {
		return false
	}
	below := seq(want, k)
	if all {
		below = seq(k, want)
	}
	f2, e := search.Run(x, below, api.MaxVisits) // the other way round follows from what stands on the formula's side
	if e == api.OK && !f2.Proved {
		t.Fatalf("%s: %s, not %s (%v)", show(x, id), show(x, k), show(x, want), all)
	}
	return e == api.OK
}

// TestPlain: P25.2, held against the plain reading, of formulas by chance.
func TestPlain(t *testing.T) {
	t.Parallel()
	chance := newChance(15)
	for leaves := 3; leaves <= 9; leaves++ {
		many := 0
		for i := range 100 {
			if holdPlain(t, someTree(chance, leaves, []string{"p", "p", "q", "r", "s"}), i%2 == 0) {
				many++
			}
		}
		if many < 75 {
			t.Error(leaves, many)
		}
	}
}
