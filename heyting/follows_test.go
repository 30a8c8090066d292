package heyting_test

import (
	"math/rand/v2"
	"slices"
	"testing"

	"dictum/api"
	"dictum/classical"
	"dictum/decide"
	"dictum/force"
	"dictum/formula"
	"dictum/heyting"
	"dictum/worlds"
)

// someAlgebra is the algebra of the up-sets of a model by chance, of at most so many elements, in any order.
func someAlgebra(t *testing.T, r *rand.Rand, most int) api.Algebra {
	t.Helper()
	for {
		if a, _, e := heyting.Ups(someModel(r, 6, 0)); e == api.OK && len(a.Leq) <= most {
			return renamed(a, r.Perm(len(a.Leq)))
		}
	}
}

// value is the element that a formula is.
func value(t *testing.T, a api.Algebra, x *formula.Table, id int, by []api.Hyp) int {
	t.Helper()
	v, e := heyting.Value(a, x, id, by)
	if e != api.OK {
		t.Fatalf("Value(%s, %d of %v, %v): error %d", show(a), id, x.Rows(), by, e)
	}
	return v
}

// residual asks of all x, y, z whether the meeting of z and x is at most y just if z is at most Imp(x, y).
func residual(t *testing.T, a api.Algebra) {
	t.Helper()
	for x := range a.Leq {
		for y := range a.Leq {
			imp, e := heyting.Imp(a, x, y)
			if e != api.OK {
				t.Fatal(e)
			}
			for z := range a.Leq {
				meet, e := heyting.Meet(a, z, x)
				if a.Leq[meet][y] != a.Leq[z][imp] || e != api.OK {
					t.Fatalf("%s: x %d, y %d, z %d", show(a), x, y, z)
				}
			}
		}
	}
}

// TestFollowsResiduation: P23.6, of known algebras and of some by chance.
func TestFollowsResiduation(t *testing.T) {
	for _, a := range known() {
		residual(t, a)
	}
	chance := newChance(11)
	for range 60 {
		residual(t, someAlgebra(t, chance, 16))
	}
}

// TestFollowsForced: P23.6, a formula's value in the up-sets of a model is the set of the worlds that force it, as layer 18 tells them.
func TestFollowsForced(t *testing.T) {
	chance := newChance(12)
	asked := 0
	for asked < 400 {
		m := someModel(chance, 7, 4)
		a, sets, e := heyting.Ups(m)
		if e != api.OK {
			continue
		}
		asked++
		by, _ := heyting.Atoms(m)
		for _, name := range byBytes() {
			if !slices.ContainsFunc(by, func(h api.Hyp) bool { return h.Name == name }) {
				by = append(by, api.Hyp{Name: name})
			}
		}
		x := made(t, someRows(chance, 2+chance.IntN(30), 1+chance.IntN(10), byBytes())...)
		for id := max(0, x.Len()-4); id < x.Len(); id++ {
			forced, e := force.Worlds(x, m, id)
			if v := value(t, a, x, id, by); !slices.Equal(sets[v], forced) || e != api.OK {
				t.Fatalf("%d of %v in %s: %v, not %v, error %d", id, x.Rows(), showModel(m), sets[v], forced, e)
			}
		}
	}
}

// proofs are formulas that are proved.
func proofs() []string {
	return []string{
		"true",
		"p -> p",
		"false -> p",
		"p -> q -> p",
		"(p -> q -> P) -> (p -> q) -> p -> P",
		"p & q -> q & p",
		"p -> p | q",
		"(p -> P) -> (q -> P) -> p | q -> P",
		"p & (q | P) <-> p & q | p & P",
		"p | q & P <-> (p | q) & (p | P)",
		"(p & q -> P) <-> (p -> q -> P)",
		"(p | q -> P) <-> (p -> P) & (q -> P)",
		"p -> ~~p",
		"~~~p -> ~p",
		"~~(p | ~p)",
		"~(p & ~p)",
		"(p -> q) -> ~q -> ~p",
		"~(p | q) <-> ~p & ~q",
		"~p | ~q -> ~(p & q)",
		"~~(~~p -> p)",
		"~~(((p -> q) -> p) -> p)",
		"~~(p & q) <-> ~~p & ~~q",
		"~~(p -> q) <-> (~~p -> ~~q)",
		"(p | ~p) -> ~~p -> p",
		"((p -> q) -> q) -> ((q -> q) -> p) -> (p -> q) -> q",
	}
}

// TestFollowsSound: P23.6 and W6, what is proved is the greatest element of known algebras, whatever its atoms are.
func TestFollowsSound(t *testing.T) {
	for _, text := range proofs() {
		x := formula.New()
		id := read(t, x, text)
		if a, e := decide.Form(x, id); !a.Proved || e != api.OK {
			t.Fatalf("%s: error %d", text, e)
		}
		for _, a := range []api.Algebra{row(1), row(2), row(3), row(4), subsets(2), stacked(row(1), subsets(2)), stacked(subsets(2), row(1)), product(2, 3)} {
			_, greatest, _ := heyting.Bounds(a)
			many := len(a.Leq)
			for n := range many * many * many {
				by := []api.Hyp{{Name: "p", Form: n % many}, {Name: "q", Form: n / many % many}, {Name: "P", Form: n / many / many}}
				if v := value(t, a, x, id, by); v != greatest {
					t.Fatalf("%s in %s by %v: %d", text, show(a), by, v)
				}
			}
		}
	}
}

// TestFollowsDecided: P23.6 and W6, formulas by chance: what is proved is the greatest element wherever one looks, and what is not is another one in the up-sets of the model that refutes it.
func TestFollowsDecided(t *testing.T) {
	chance := newChance(13)
	count := map[bool]int{}
	for range 600 {
		x := made(t, someRows(chance, 3+chance.IntN(14), 1+chance.IntN(6), byBytes()[:1+chance.IntN(3)])...)
		id := x.Len() - 1
		d, e := decide.Form(x, id)
		if e != api.OK {
			continue
		}
		if d.Proved {
			count[true]++
			for range 20 {
				a := someAlgebra(t, chance, 24)
				_, greatest, _ := heyting.Bounds(a)
				if by := someBy(chance, len(a.Leq), byBytes()); value(t, a, x, id, by) != greatest {
					t.Fatalf("%v in %s by %v", x.Rows(), show(a), by)
				}
			}
			continue
		}
		a, _, e := heyting.Ups(d.Model)
		if e != api.OK {
			continue
		}
		by, _ := heyting.Atoms(d.Model)
		for _, name := range byBytes() {
			if !slices.ContainsFunc(by, func(h api.Hyp) bool { return h.Name == name }) {
				by = append(by, api.Hyp{Name: name})
			}
		}
		count[false]++
		if _, greatest, _ := heyting.Bounds(a); value(t, a, x, id, by) == greatest {
			t.Fatalf("%v in %s", x.Rows(), showModel(d.Model))
		}
	}
	if count[true] < 50 || count[false] < 200 {
		t.Error(count)
	}
}

// TestFollowsClassical: P23.2 and P23.3, in the sets of a truth table's rows a formula is the set of the rows in which it is true.
func TestFollowsClassical(t *testing.T) {
	chance := newChance(14)
	names := []string{"p", "q"}
	a := subsets(4)
	if is, e := heyting.Boolean(a); !is || e != api.OK {
		t.Error(is, e)
	}
	by := []api.Hyp{{Name: "p", Form: 0b1010}, {Name: "q", Form: 0b1100}} // bit i of a row's number is atom i's value
	for range 300 {
		x := made(t, someRows(chance, 2+chance.IntN(20), 1+chance.IntN(8), names)...)
		id := x.Len() - 1
		for _, name := range names { // so that all of them have a place in the table, and the value stays
			p, _ := x.Atom(name)
			same, _ := x.Imp(p, p)
			id, _ = x.And(id, same)
		}
		_, values, e := classical.Table(x, id)
		want := 0
		for row, is := range values {
			if is {
				want |= 1 << row
			}
		}
		if v := value(t, a, x, id, by); v != want || e != api.OK {
			t.Fatalf("%v: %b, not %b, error %d", x.Rows(), v, want, e)
		}
	}
}

// dual asks that the elements of an algebra, each as the set of the worlds of Primes whose elements are at most it, are just the up-sets of Primes, and that one is at most another one just as these are.
func dual(t *testing.T, a api.Algebra) {
	t.Helper()
	m, primes, e := heyting.Primes(a)
	if e != api.OK {
		t.Fatalf("Primes(%s): error %d", show(a), e)
	}
	if tidy, e := worlds.Tidy(m); !alikeModel(m, tidy) || e != api.OK || len(slices.Concat(m.Val...)) != 0 || len(m.Val) != len(primes) {
		t.Fatalf("Primes(%s): %s", show(a), showModel(m))
	}
	u, sets, e := heyting.Ups(m)
	if e != api.OK || len(sets) != len(a.Leq) {
		t.Fatalf("Ups(%s): %d sets of %d elements, error %d", showModel(m), len(sets), len(a.Leq), e)
	}
	as := make([]int, len(a.Leq))
	for x := range a.Leq {
		var below []int
		for w, prime := range primes {
			if a.Leq[prime][x] {
				below = append(below, w)
			}
		}
		as[x] = slices.IndexFunc(sets, func(l []int) bool { return slices.Equal(l, below) })
		if as[x] < 0 {
			t.Fatalf("%s: element %d is %v, which is no up-set of %s", show(a), x, below, showModel(m))
		}
	}
	if !alike(renamed(a, as), u) {
		t.Fatalf("%s: as up-sets of %s the order is another one", show(a), showModel(m))
	}
}

// TestFollowsDual: P23.6, of known algebras, of some by chance, and of 64 elements.
func TestFollowsDual(t *testing.T) {
	for _, a := range known() {
		if len(a.Leq) > 1 {
			dual(t, a)
		}
	}
	for _, l := range larges() {
		dual(t, l.a)
	}
	chance := newChance(15)
	for range 300 {
		dual(t, someAlgebra(t, chance, 64))
	}
}

// TestFollowsBack: P23.6, the primes of a model's up-sets are its worlds, each with all above it: the same order.
func TestFollowsBack(t *testing.T) {
	chance := newChance(16)
	asked := 0
	for range 400 {
		m := someModel(chance, 8, 2)
		a, sets, e := heyting.Ups(m)
		if e != api.OK {
			continue
		}
		asked++
		n, primes, e := heyting.Primes(a)
		if e != api.OK || len(primes) != len(m.Up) {
			t.Fatalf("%s: %d primes, error %d", showModel(m), len(primes), e)
		}
		as := make([]int, len(primes)) // of each prime the world
		for w := range m.Up {
			above, _ := worlds.Above(m, w)
			at := slices.IndexFunc(primes, func(x int) bool { return slices.Equal(sets[x], above) })
			if at < 0 {
				t.Fatalf("%s: world %d has no prime among %v", showModel(m), w, primes)
			}
			as[at] = w
		}
		tidy, _ := worlds.Tidy(reordered(n, as))
		want, _ := worlds.Tidy(withoutAtoms(m))
		if !alikeModel(tidy, want) {
			t.Fatalf("%s, not %s", showModel(tidy), showModel(want))
		}
	}
	if asked < 250 {
		t.Error(asked)
	}
}

// withoutAtoms is the model without its atoms.
func withoutAtoms(m api.Model) api.Model {
	return api.Model{Up: m.Up, Val: make([][]string, len(m.Up))}
}
