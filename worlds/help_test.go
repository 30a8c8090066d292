package worlds_test

import (
	"math"
	"math/rand/v2"
	"slices"
	"strconv"
	"strings"
	"testing"

	"dictum/api"
	"dictum/worlds"
)

func newChance(seed uint64) *rand.Rand { return rand.New(rand.NewPCG(17, seed)) }

// up is a model in which nothing is true.
func up(rows ...[]int) api.Model { return api.Model{Up: rows, Val: make([][]string, len(rows))} }

// to is a row of Up.
func to(l ...int) []int { return l }

// names is a row of Val.
func names(l ...string) []string { return l }

// with is the model with these names true, a word a world, commas between them.
func with(m api.Model, val ...string) api.Model {
	m.Val = nil
	for _, names := range val {
		m.Val = append(m.Val, strings.FieldsFunc(names, func(r rune) bool { return r == ',' }))
	}
	return m
}

// diamond is the model of the chapter's first example.
func diamond() api.Model { return with(up(to(1, 2), to(3), to(3), nil), "", "p", "p", "p,q") }

// chain has so many worlds, each below the next one.
func chain(many int) api.Model {
	m := up(make([][]int, many)...)
	for w := range many - 1 {
		m.Up[w] = to(w + 1)
	}
	return m
}

// apart has so many worlds, none above another one.
func apart(many int) api.Model { return up(make([][]int, many)...) }

// clone is a model that shares nothing with another one; rows that are nil stay so.
func clone(m api.Model) api.Model {
	m.Up, m.Val = slices.Clone(m.Up), slices.Clone(m.Val)
	for i, row := range m.Up {
		m.Up[i] = slices.Clone(row)
	}
	for i, row := range m.Val {
		m.Val[i] = slices.Clone(row)
	}
	return m
}

// alike tells whether two models have the same rows; nil and empty ones are.
func alike(a, b api.Model) bool {
	return slices.EqualFunc(a.Up, b.Up, slices.Equal[[]int]) && slices.EqualFunc(a.Val, b.Val, slices.Equal[[]string])
}

func empty(m api.Model) bool { return len(m.Up) == 0 && len(m.Val) == 0 }

// show is a model as a test tells it, but not too much of it.
func show(m api.Model) string {
	s := ""
	for w, row := range m.Up {
		s += "{"
		for i, v := range row {
			if i == 20 {
				s += " .."
				break
			}
			s += " " + strconv.Itoa(v)
		}
		s += "}"
		if w == 20 {
			s += " .."
			break
		}
	}
	s += " /"
	for w, row := range m.Val {
		s += " {" + strings.Join(row[:min(len(row), 20)], ",") + "}"
		if w == 20 {
			s += " .."
			break
		}
	}
	return strconv.Itoa(len(m.Up)) + " and " + strconv.Itoa(len(m.Val)) + " rows: " + s
}

// noWorlds are numbers that no world of any model has, and the first that one of so many worlds does not have.
func noWorlds(many int) []int {
	return []int{-1, -2, -many, many, many + 1, api.MaxWorlds, api.MaxWorlds + 1, 1 << 16, 1<<32 - 1, 1 << 32, math.MaxInt, math.MinInt, math.MinInt + 1}
}

// untouched asks that a call leaves a model as it was.
func untouched(t *testing.T, m api.Model, call func()) {
	t.Helper()
	before := clone(m)
	call()
	if !alike(before, m) {
		t.Fatalf("the model became %s, and was %s", show(m), show(before))
	}
}

// checked asks for Check's answer, and that the model stays as it was.
func checked(t *testing.T, m api.Model, want api.Errno) {
	t.Helper()
	untouched(t, m, func() {
		if e := worlds.Check(m); e != want {
			t.Errorf("Check(%s): error %d, not %d", show(m), e, want)
		}
	})
}

// takeText is how Parse answers, which must be that model, or ErrModel and nothing, if there is none.
func takeText(t *testing.T, s string, want api.Model) {
	t.Helper()
	m, e := worlds.Parse(s)
	if empty(want) {
		if e != api.ErrModel || !empty(m) {
			t.Errorf("Parse(%.80q): %s, error %d", s, show(m), e)
		}
		return
	}
	if e != api.OK || !alike(m, want) {
		t.Errorf("Parse(%.80q): %s, error %d, not %s", s, show(m), e, show(want))
	}
}

// anyModel has rows by chance that are shaped; they may tell no order, and what is true need not stay true.
func anyModel(r *rand.Rand, most int) api.Model {
	m := apart(1 + r.IntN(most))
	many := len(m.Up)
	for range r.IntN(2 * many) {
		a := r.IntN(many)
		m.Up[a] = append(m.Up[a], r.IntN(many))
	}
	for w := range many {
		for _, name := range []string{"P", "p", "p'", "q"} {
			if r.IntN(6) == 0 {
				m.Val[w] = append(m.Val[w], name)
			}
		}
	}
	return m
}

// rightModel has rows by chance that are well-formed: worlds in an order of their own, rows that fall or say things twice or tell themselves.
func rightModel(r *rand.Rand, most int) api.Model {
	many := 1 + r.IntN(most)
	m, order := apart(many), r.Perm(many)
	for range r.IntN(3 * many) {
		a, b := r.IntN(many), r.IntN(many)
		if order[a] <= order[b] {
			m.Up[a] = append(m.Up[a], b)
		}
	}
	for _, name := range []string{"P", "p", "p'", "q"} {
		var holds []bool
		for range many {
			holds = append(holds, r.IntN(4) == 0)
		}
		for _, a := range byPlace(order) { // from below, so that it stays true
			for _, b := range m.Up[a] {
				holds[b] = holds[b] || holds[a]
			}
		}
		for w := range many {
			if holds[w] {
				m.Val[w] = append(m.Val[w], name)
			}
		}
	}
	return m
}

// byPlace are the worlds, those with a lesser place first.
func byPlace(order []int) []int {
	l := make([]int, len(order))
	for w, place := range order {
		l[place] = w
	}
	return l
}
