package morph_test

import (
	"math"
	"math/rand/v2"
	"slices"
	"strconv"
	"strings"
	"testing"

	"dictum/api"
	"dictum/worlds"
)

func newChance(seed uint64) *rand.Rand { return rand.New(rand.NewPCG(19, seed)) }

// to is a row of Up, or another list of numbers.
func to(l ...int) []int { return l }

// names is a row of Val, written with commas.
func names(s string) []string {
	return strings.FieldsFunc(s, func(r rune) bool { return r == ',' })
}

// up is a model in which nothing is true.
func up(rows ...[]int) api.Model { return api.Model{Up: rows, Val: make([][]string, len(rows))} }

// with is the model with these names true, a word a world, commas between them.
func with(m api.Model, val ...string) api.Model {
	m.Val = nil
	for _, s := range val {
		m.Val = append(m.Val, names(s))
	}
	return m
}

// diamond is the model of layer 17's first example.
func diamond() api.Model { return with(up(to(1, 2), to(3), to(3), nil), "", "p", "p", "p,q") }

// single is a model of one world.
func single(val string) api.Model { return with(up(nil), val) }

// chain has so many worlds, each below the next one.
func chain(many int) api.Model {
	m := up(make([][]int, many)...)
	for w := range many - 1 {
		m.Up[w] = to(w + 1)
	}
	return m
}

// apart has so many worlds, none above another one.
func apart(many int) api.Model { return up(make([][]int, many)...) }

// fan has so many worlds, all others next above world 0.
func fan(many int) api.Model {
	m := apart(many)
	m.Up[0] = run(1, many)
	return m
}

// ladder has so many worlds, no two of them bisimilar: p is true in world 0, and each from 3 on is below the second and the third one ahead of it.
func ladder(many int) api.Model {
	m := apart(many)
	m.Val[0] = names("p")
	for w := 2; w < many; w++ {
		m.Up[w] = run(max(w-3, 0), w-1)
	}
	if many > 2 {
		m.Up[2] = to(0)
	}
	return m
}

// doubling has two worlds a level, each below both of the next level: from world 0 on the ways are twice as many at each level.
func doubling(levels int) api.Model {
	m := apart(2 * levels)
	for w := range 2*levels - 2 {
		m.Up[w] = to(w/2*2+2, w/2*2+3)
	}
	return m
}

// from is the model with a name behind the others that are true, from a world on.
func from(m api.Model, w int, name string) api.Model {
	m = clone(m)
	for ; w < len(m.Val); w++ {
		m.Val[w] = append(m.Val[w], name)
	}
	return m
}

// run are the numbers from one to ahead of another one.
func run(a, b int) []int {
	var l []int
	for ; a < b; a++ {
		l = append(l, a)
	}
	return l
}

// clone is a model that shares nothing with another one; rows that are nil stay so.
func clone(m api.Model) api.Model {
	m.Up, m.Val = slices.Clone(m.Up), slices.Clone(m.Val)
	for i, row := range m.Up {
		m.Up[i] = slices.Clone(row)
	}
	for i, row := range m.Val {
		m.Val[i] = slices.Clone(row)
	}
	return m
}

// clones are models that share nothing with others.
func clones(l []api.Model) []api.Model {
	var copies []api.Model
	for _, m := range l {
		copies = append(copies, clone(m))
	}
	return copies
}

// alike tells whether two models have the same rows; nil and empty ones are.
func alike(a, b api.Model) bool {
	return slices.EqualFunc(a.Up, b.Up, slices.Equal[[]int]) && slices.EqualFunc(a.Val, b.Val, slices.Equal[[]string])
}

func empty(m api.Model) bool { return len(m.Up) == 0 && len(m.Val) == 0 }

// show is a model as a test tells it, but not too much of it.
func show(m api.Model) string {
	s := strings.ReplaceAll(worlds.Text(m), "\n", "; ")
	if len(s) > 200 {
		s = s[:200] + ".."
	}
	return strconv.Itoa(len(m.Up)) + " worlds: " + s
}

// shown are models as a test tells them.
func shown(l []api.Model) string {
	s := strconv.Itoa(len(l)) + " models"
	for i, m := range l {
		if i == 8 {
			return s + " .."
		}
		s += " [" + show(m) + "]"
	}
	return s
}

// untouched asks that a call leaves models as they were.
func untouched(t *testing.T, l []api.Model, call func()) {
	t.Helper()
	before := clones(l)
	call()
	if !slices.EqualFunc(before, l, alike) {
		t.Fatalf("the models became %s, and were %s", shown(l), shown(before))
	}
}

// noWorlds are numbers that no world of a model of so many worlds has.
func noWorlds(many int) []int {
	return []int{-1, -2, -many, many, many + 1, many + 64, api.MaxWorlds, api.MaxWorlds + 1, 1 << 16, 1 << 32, math.MaxInt, math.MinInt, math.MinInt + 1}
}

// noModels are models that are not well-formed.
func noModels() []api.Model {
	return []api.Model{
		{},
		{Up: [][]int{{}}},
		{Val: [][]string{{}}},
		{Up: [][]int{{}}, Val: [][]string{{}, {}}},
		{Up: [][]int{{}, {}}, Val: [][]string{{}}},
		up(to(1)),
		up(to(-1)),
		up(to(1), to(0)),
		up(to(1), to(2), to(0)),
		with(up(to(1), nil), "p", ""),
		with(up(to(1), to(2), nil), "p", "p", "q"),
		single("q,p"),
		single("p,p"),
		single("false"),
		single("1"),
		apart(api.MaxWorlds + 1),
		chain(api.MaxWorlds + 1),
	}
}

// byBytes are the names of someModel by bytes.
func byBytes() []string { return []string{"P", "p", "p'", "q"} }

// someModel has rows by chance that are well-formed: worlds in an order of their own, rows that fall or say things twice or tell themselves, and up to so many atoms.
func someModel(r *rand.Rand, most, atoms int) api.Model {
	many := 1 + r.IntN(most)
	m, place := apart(many), r.Perm(many)
	for range r.IntN(3 * many) {
		a, b := r.IntN(many), r.IntN(many)
		if place[a] <= place[b] {
			m.Up[a] = append(m.Up[a], b)
		}
	}
	return valuedByChance(r, m, atoms)
}

// rooted has rows by chance that are well-formed, with a root.
func rooted(r *rand.Rand, most, atoms int) api.Model {
	many := 1 + r.IntN(most)
	m, order := apart(many), r.Perm(many)
	for i := 1; i < many; i++ {
		for range 1 + r.IntN(2) {
			below := order[r.IntN(i)]
			m.Up[below] = append(m.Up[below], order[i])
		}
	}
	return valuedByChance(r, m, atoms)
}

// valuedByChance is a model without atoms with up to so many of them, each true in some worlds and all above these.
func valuedByChance(r *rand.Rand, m api.Model, atoms int) api.Model {
	above := plainOrder(m.Up)
	for _, name := range byBytes()[:r.IntN(atoms+1)] {
		often := 1 + r.IntN(4)
		for w := range m.Up {
			if r.IntN(often) > 0 {
				continue
			}
			for v := range m.Up {
				if above[w][v] && !slices.Contains(m.Val[v], name) {
					m.Val[v] = append(m.Val[v], name)
				}
			}
		}
	}
	return m
}

// doubled is a model of some worlds of which each stands there twice, by chance with what was next above one of the two above the other one, too: so that many are bisimilar.
func doubled(r *rand.Rand, m api.Model) api.Model {
	many := len(m.Up)
	twice := clone(m)
	for w, row := range m.Up {
		var other []int
		for _, v := range row {
			if v == w {
				continue
			}
			other = append(other, v+many*r.IntN(2))
		}
		if r.IntN(2) == 0 {
			other = append(other, w)
		}
		twice.Up = append(twice.Up, other)
		twice.Val = append(twice.Val, slices.Clone(m.Val[w]))
	}
	return twice
}

// frames are all ways to tell so many worlds above each other, each lesser number below greater ones alone.
func frames(many int) []api.Model {
	var pairs [][2]int
	for a := range many {
		for b := a + 1; b < many; b++ {
			pairs = append(pairs, [2]int{a, b})
		}
	}
	var l []api.Model
	for which := range 1 << len(pairs) {
		m := apart(many)
		for i, pair := range pairs {
			if which>>i&1 == 1 {
				m.Up[pair[0]] = append(m.Up[pair[0]], pair[1])
			}
		}
		l = append(l, m)
	}
	return l
}

// models are all models of up to so many worlds with these atoms, each lesser number below greater ones alone.
func models(most int, atoms ...string) []api.Model {
	var l []api.Model
	for many := 1; many <= most; many++ {
		for _, m := range frames(many) {
			l = append(l, valued(m, atoms)...)
		}
	}
	return l
}

// valued are all models with that Up and these atoms.
func valued(m api.Model, atoms []string) []api.Model {
	l := []api.Model{m}
	above := plainOrder(m.Up)
	for _, name := range atoms {
		var more []api.Model
		for set := range 1 << len(m.Up) {
			if !staysTrue(above, set) {
				continue
			}
			for _, one := range l {
				one = clone(one)
				for w := range one.Val {
					if set>>w&1 == 1 {
						one.Val[w] = append(one.Val[w], name)
					}
				}
				more = append(more, one)
			}
		}
		l = more
	}
	return l
}

// staysTrue tells whether a set of worlds, as a number, has with each world all above it.
func staysTrue(above [][]bool, set int) bool {
	for a := range above {
		for b := range above {
			if above[a][b] && set>>a&1 == 1 && set>>b&1 == 0 {
				return false
			}
		}
	}
	return true
}

// turned is the model with its worlds the other way round.
func turned(m api.Model) api.Model {
	m = clone(m)
	last := len(m.Up) - 1
	slices.Reverse(m.Up)
	slices.Reverse(m.Val)
	for _, row := range m.Up {
		for i, w := range row {
			row[i] = last - w
		}
	}
	return m
}
