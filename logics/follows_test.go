package logics_test

import (
	"slices"
	"strconv"
	"testing"

	"dictum/api"
	"dictum/classical"
	"dictum/decide"
	"dictum/force"
	"dictum/formula"
	"dictum/logics"
	"dictum/search"
	"dictum/worlds"
)

// varied are the logics whose axioms have no more atoms than layer 18's Frame looks at.
func varied() []logic {
	return slices.DeleteFunc(ordered(), func(l logic) bool { return l.k == api.LogicBD && l.n > api.MaxVary })
}

// heldFrame asks of each of these logics that its axiom is valid on a frame just if the frame fits.
func heldFrame(t *testing.T, m api.Model) {
	t.Helper()
	for _, l := range varied() {
		x := formula.New()
		id, e := logics.Axiom(x, l.k, l.n)
		if e != api.OK {
			t.Fatal(e)
		}
		valid, _, e := force.Frame(x, m, id)
		if e != api.OK {
			t.Fatal(e)
		}
		if is, e := logics.Fits(m, l.k, l.n); is != valid || e != api.OK {
			t.Fatalf("%s: Fits(%v) is %v, error %d, and the axiom is valid: %v", show(m), l, is, e, valid)
		}
	}
}

// TestFollowsFrames: P24.7, all orders of up to four worlds, and each one of five whose rows rise.
func TestFollowsFrames(t *testing.T) {
	for many := 1; many <= 4; many++ {
		orders(many, func(m api.Model) { heldFrame(t, m) })
	}
	seen := map[string]int{}
	chance := newChance(16)
	rising(5, func(m api.Model) {
		tidy, _ := worlds.Tidy(m)
		if s := worlds.Text(tidy); seen[s] == 0 {
			seen[s]++
			heldFrame(t, reordered(m, 5, chance.Perm(5)))
		}
	})
	if len(seen) != 357 { // the orders of five numbers that these rise in
		t.Error(len(seen))
	}
}

// TestFollowsForced: P24.7, in a chain the world w forces a formula just if its truth value is at least n - w.
func TestFollowsForced(t *testing.T) {
	chance := newChance(17)
	someForms(t, 18, 600, 30, 5, func(x *formula.Table) {
		n := 1 + chance.IntN(64)
		if chance.IntN(2) == 0 {
			n = 1 + chance.IntN(6)
		}
		by := someBy(chance, n, byBytes())
		m, e := logics.Model(n, by)
		if e != api.OK {
			t.Fatal(e)
		}
		for id := max(0, x.Len()-5); id < x.Len(); id++ {
			v, e := logics.Value(x, id, n, by)
			if e != api.OK {
				t.Fatal(e)
			}
			forced, e := force.Worlds(x, m, id)
			if !slices.Equal(forced, run(n-v, n)) || e != api.OK {
				t.Fatalf("%d of %v in %s: %v, value %d, error %d", id, x.Rows(), show(m), forced, v, e)
			}
		}
	})
}

// TestFollowsRefuted: P24.4 and P24.7, what is not true in Dummett's logic is not forced in world 0 of the chain of the values that refute it.
func TestFollowsRefuted(t *testing.T) {
	someForms(t, 19, 500, 20, 4, func(x *formula.Table) {
		id := x.Len() - 1
		is, by, e := logics.Dummett(x, id)
		if e != api.OK {
			t.Fatal(e)
		}
		if is {
			return
		}
		n := len(plainNames(x.Rows(), id)) + 1
		m, e := logics.Model(n, by)
		if e != api.OK {
			t.Fatal(e)
		}
		if forced, e := force.At(x, m, 0, id); forced || e != api.OK {
			t.Fatalf("%v is forced in %s, error %d", x.Rows(), show(m), e)
		}
		if fits, e := logics.Fits(m, api.LogicLC, 0); !fits || e != api.OK {
			t.Fatalf("%s: %v, error %d", show(m), fits, e)
		}
	})
}

// TestFollowsMore: P24.4, longer chains refute no more: what is true with as many truth values as Dummett asks is true with more.
func TestFollowsMore(t *testing.T) {
	chance := newChance(20)
	asked := 0
	someForms(t, 21, 2500, 14, 4, func(x *formula.Table) {
		id := x.Len() - 1
		if is, _, _ := logics.Dummett(x, id); !is {
			return
		}
		asked++
		for range 40 {
			n := 1 + chance.IntN(20)
			by := someBy(chance, n, byBytes())
			if v, e := logics.Value(x, id, n, by); v != n || e != api.OK {
				t.Fatalf("%v by %v of %d: %d, error %d", x.Rows(), by, n, v, e)
			}
		}
	})
	if asked < 200 {
		t.Error(asked)
	}
}

// TestFollowsBetween: P24.7 and W6, what is proved is true in Dummett's logic, and what is true there is true in every row of a truth table.
func TestFollowsBetween(t *testing.T) {
	count := map[string]int{}
	someForms(t, 22, 2500, 16, 4, func(x *formula.Table) {
		id := x.Len() - 1
		found, e := search.Run(x.Copy(), api.Seq{Goal: id}, api.MaxVisits)
		if e != api.OK {
			return
		}
		dummett, _, e := logics.Dummett(x, id)
		if e != api.OK {
			t.Fatal(e)
		}
		always, _, e := classical.Always(x, id)
		if e != api.OK {
			t.Fatal(e)
		}
		if found.Proved && !dummett || dummett && !always {
			t.Fatalf("%v: proved %v, on chains %v, in all rows %v", x.Rows(), found.Proved, dummett, always)
		}
		switch {
		case found.Proved:
			count["proved"]++
		case dummett:
			count["between proof and chains"]++
		case always:
			count["between chains and rows"]++
		}
	})
	if count["proved"] < 200 || count["between proof and chains"] < 3 || count["between chains and rows"] < 20 {
		t.Error(count)
	}
}

// heldRoad asks whether Reduce of a formula is proved just if the formula is true in Dummett's logic; false, if the search does not end.
func heldRoad(t *testing.T, x *formula.Table, id int) bool {
	t.Helper()
	y := x.Copy()
	r, e := logics.Reduce(y, id)
	if e != api.OK {
		return false
	}
	a, e := decide.Form(y, r)
	if e != api.OK && e != api.ErrBig {
		return false
	}
	if e == api.ErrBig {
		found, e := search.Run(y, api.Seq{Goal: r}, api.MaxVisits)
		if e != api.OK {
			return false
		}
		a.Proved = found.Proved
	}
	if is, _, e := logics.Dummett(x, id); is != a.Proved || e != api.OK {
		t.Fatalf("%v, %d: %v on chains, error %d, and what is reduced is proved: %v", x.Rows(), id, is, e, a.Proved)
	}
	return true
}

// TestFollowsReduced: P24.7, by way of intuitionistic logic: known formulas and some by chance, where the search ends.
func TestFollowsReduced(t *testing.T) {
	asked := 0
	for _, text := range []string{
		"p", "false", "true", "p -> p", "p -> q", "~p", "~~p", "~p | p", "~p | ~~p", "~~p -> p", "(p -> q) | (q -> p)", "(p -> q) | p", "p & q -> p", "p & q -> q & p", "p -> p & q",
		"((p -> q) -> p) -> p", "~(p & ~p)", "(p -> false) | (false -> p)", "p | (p -> q)", "~(p & p)", "(p | p) -> p", "~~~p -> ~p", "(p & p -> q) | (q -> p)",
	} {
		x := formula.New()
		if heldRoad(t, x, read(t, x, text)) {
			asked++
		} else {
			t.Logf("%s: not asked", text)
		}
	}
	if asked < 18 {
		t.Error(asked)
	}
	asked = 0
	someForms(t, 23, 500, 5, 2, func(x *formula.Table) {
		if heldRoad(t, x, x.Len()-1) {
			asked++
		}
	})
	if asked < 300 {
		t.Error(asked)
	}
}

// TestFollowsAxioms: P24.7, which axioms are true in Dummett's logic.
func TestFollowsAxioms(t *testing.T) {
	for _, l := range all() {
		x := formula.New()
		id, e := logics.Axiom(x, l.k, l.n)
		if e != api.OK {
			t.Fatal(e)
		}
		want := l.k == api.LogicLC || l.k == api.LogicKC || l.k == api.LogicKP || l.k == api.LogicSL
		is, _, e := logics.Dummett(x, id)
		if l.n > api.MaxChain { // BDn has n atoms
			if is || e != api.ErrAtoms {
				t.Errorf("%v: %v, error %d", l, is, e)
			}
		} else if is != want || e != api.OK {
			t.Errorf("%v: %v, error %d", l, is, e)
		}
		always, _, e := classical.Always(x, id)
		if !always || e != api.OK {
			t.Errorf("%v: %v in all rows, error %d", l, always, e)
		}
		if a, e := decide.Form(x, id); a.Proved || e != api.OK {
			t.Errorf("%v is proved, error %d", l, e)
		}
	}
}

// TestFollowsBounded: P24.7, what refutes BDn: n + 1 worlds in a row; of BD6 to BD8, too, which Dummett does not look at.
func TestFollowsBounded(t *testing.T) {
	for n := 1; n <= api.MaxBound; n++ {
		x := formula.New()
		id, _ := logics.Axiom(x, api.LogicBD, n)
		var by []api.Hyp
		for i := 1; i <= n; i++ {
			by = append(by, api.Hyp{Name: "p" + strconv.Itoa(i), Form: i})
		}
		if v, e := logics.Value(x, id, n+1, by); v != n || e != api.OK {
			t.Errorf("BD%d: %d, error %d", n, v, e)
		}
		m, _ := logics.Model(n+1, by)
		if is, e := force.At(x, m, 0, id); is || e != api.OK {
			t.Errorf("BD%d is forced in %s", n, show(m))
		}
		for _, l := range []logic{{api.LogicBD, n}, {api.LogicBD, min(n+1, 8)}} {
			if is, e := logics.Fits(m, l.k, l.n); is != (l.n == n+1) || e != api.OK {
				t.Errorf("Fits(%s, %v): %v, error %d", show(m), l, is, e)
			}
		}
	}
}

// TestFollowsNested: P24.2 and P24.7, what each logic's frames are among those of others.
func TestFollowsNested(t *testing.T) {
	chance := newChance(24)
	for range 400 {
		m := someFrame(chance, 30)
		fits := func(k api.Logic, n int) bool {
			is, e := logics.Fits(m, k, n)
			if e != api.OK {
				t.Fatal(e)
			}
			return is
		}
		for _, c := range [][2]bool{
			{fits(api.LogicCL, 0), fits(api.LogicSM, 0)},
			{fits(api.LogicSM, 0), fits(api.LogicLC, 0)},
			{fits(api.LogicLC, 0), fits(api.LogicKC, 0)},
			{fits(api.LogicLC, 0), fits(api.LogicKP, 0)},
			{fits(api.LogicBD, 1), fits(api.LogicCL, 0)},
			{fits(api.LogicCL, 0), fits(api.LogicBD, 1)},
			{fits(api.LogicSM, 0), fits(api.LogicBD, 2)},
			{fits(api.LogicBD, 3), fits(api.LogicBD, 4)},
		} {
			if c[0] && !c[1] {
				t.Fatal(show(m))
			}
		}
	}
}
