package decide_test

import (
	"slices"
	"testing"

	"dictum/api"
	"dictum/decide"
	"dictum/formula"
	"dictum/search"
	"dictum/subst"
	"dictum/types"
	"dictum/worlds"
)

// smallModels are all well-formed models of up to three worlds with the atoms p and q, no world told to be above itself.
func smallModels() []api.Model {
	var out []api.Model
	for many := 1; many <= 3; many++ {
		for ups := range 1 << (many * many) {
			m := up(make([][]int, many)...)
			self := false
			for place := range many * many {
				if ups>>place&1 == 1 {
					m.Up[place/many] = append(m.Up[place/many], place%many)
					self = self || place/many == place%many
				}
			}
			if self || worlds.Check(m) != api.OK {
				continue
			}
			for vals := range 1 << (2 * many) {
				n := api.Model{Up: m.Up, Val: make([][]string, many)}
				for w := range many {
					n.Val[w] = [][]string{nil, {"p"}, {"q"}, {"p", "q"}}[vals>>(2*w)&3]
				}
				if worlds.Check(n) == api.OK {
					out = append(out, n)
				}
			}
		}
	}
	return out
}

// forcedIn tells of each formula whether all worlds of all models force it.
func forcedIn(rows []api.Node, models []api.Model) []bool {
	out := slices.Repeat([]bool{true}, len(rows))
	for _, m := range models {
		for id, row := range plainForced(rows, m) {
			out[id] = out[id] && !slices.Contains(row, false)
		}
	}
	return out
}

// smallTable has all formulas of p, q and false with at most one connective, and some of those joined of two of these.
func smallTable() *formula.Table {
	x := formula.New()
	x.Atom("p")
	x.Atom("q")
	x.Bot()
	for a := range 3 {
		for b := range 3 {
			for k := api.KAnd; k <= api.KImp; k++ {
				x.Put(join(k, a, b))
			}
		}
	}
	for few, a := x.Len(), 0; a < few; a++ {
		for b := a % 2; b < few; b += 2 {
			x.Put(join(api.KAnd+api.Kind((a+b)/2%3), a, b))
		}
	}
	return x
}

// TestFollowsOneAnswer: P21.6 and W1, each text has one of four errors, or an answer that Holds.
func TestFollowsOneAnswer(t *testing.T) {
	chance := newChance(8)
	got := map[api.Errno]int{}
	ask := func(text string) {
		_, f := heldText(t, text) // which asks Holds, too
		got[f.Code]++
	}
	for range 400 {
		text := someText(chance, 1+chance.IntN(80), 1+chance.IntN(5))
		ask(text)
		at := chance.IntN(len(text))
		ask(text[:at] + text[at+1:])
	}
	for range 60 {
		ask(someText(chance, 490+chance.IntN(40), 5))
	}
	for _, text := range []string{wide(200, ""), hard(), visited(4097), visited(4096)} {
		ask(text)
	}
	for _, e := range []api.Errno{api.OK, api.ErrTooBig, api.ErrParse, api.ErrBudget, api.ErrBig} {
		if got[e] == 0 {
			t.Error(e, got)
		}
	}
	if len(got) != 5 {
		t.Error(got)
	}
}

// smallTerms are all terms of up to so many nodes with the names x and y, and numbers of formulas below forms.
func smallTerms(nodes, forms int) [][]api.Term {
	all := [][]api.Term{nil, {v("x"), v("y")}}
	for size := 2; size <= nodes; size++ {
		var l []api.Term
		for _, a := range all[size-1] {
			l = append(l, lam("x", a), lam("y", a))
			for _, k := range []api.TermKind{api.TFst, api.TSnd, api.TInl, api.TInr, api.TAbort} {
				l = append(l, of(k, a))
			}
			for form := range forms {
				l = append(l, the(a, form))
			}
		}
		for n := 1; n < size-1; n++ {
			for _, a := range all[n] {
				for _, b := range all[size-1-n] {
					l = append(l, of(api.TApp, a, b), of(api.TPair, a, b), let("x", a, b))
				}
			}
		}
		all = append(all, l)
	}
	return all
}

// TestFollowsSound: P21.6 and W2, if the checker takes a term at a formula, all worlds of all small models force it, the search does not refute it, and no model that is put beside it Holds.
func TestFollowsSound(t *testing.T) {
	x := smallTable()
	x.Cut(30)
	for _, text := range []string{"(p -> p) -> p", "p -> p -> p", "p -> q -> p", "p & p -> p", "p -> p | q", "(p -> p) & (p -> p)", "(p -> p) | q"} {
		read(t, x, text)
	}
	rows := x.Rows()
	models := smallModels()
	forced := forcedIn(rows, models)
	taken := map[int]int{}
	for _, l := range smallTerms(4, 6) {
		for _, y := range l {
			for id := range rows {
				if types.Check(x, nil, y, id) != api.OK {
					continue
				}
				if !forced[id] {
					t.Fatalf("%s is taken at %s", showTerm(y), says(t, x, id))
				}
				taken[id]++
			}
		}
	}
	for id := range rows {
		a, e := heldForm(t, x, id)
		if e != api.OK || taken[id] > 0 && !a.Proved {
			t.Errorf("%s: %s, error %d", says(t, x, id), show(a), e)
		}
		if !a.Proved {
			continue
		}
		for _, m := range models {
			holds(t, api.Answer{Rows: rows, Form: id, Model: m}, api.ErrModel)
		}
	}
	if len(taken) < 8 {
		t.Error(taken)
	}
}

// TestFollowsTrue: P21.6, what is proved is forced in all worlds of all small models; what one of them does not force is refuted.
func TestFollowsTrue(t *testing.T) {
	x := smallTable()
	rows := x.Rows()
	forced := forcedIn(rows, smallModels())
	proved := 0
	for id := range rows {
		a, e := heldForm(t, x, id)
		if a.Proved && !forced[id] || e != api.OK {
			t.Fatalf("%s: %s, error %d, forced %v", says(t, x, id), show(a), e, forced[id])
		}
		if !a.Proved && forced[id] && len(a.Model.Up) <= 3 {
			t.Fatalf("%s: %s, which is a small model", says(t, x, id), show(a))
		}
		if a.Proved {
			proved++
		}
	}
	if proved < 100 || len(rows)-proved < 100 {
		t.Errorf("%d of %d are proved", proved, len(rows))
	}
}

// TestFollowsBoth: P21.6, no formula has both answers: of what is proved no model of another formula Holds, of what is refuted no term of another one.
func TestFollowsBoth(t *testing.T) {
	var terms []api.Term
	var models []api.Model
	texts := slices.Concat(provedTexts(), refutedTexts())
	x, ids := readAll(t, texts...)
	for _, id := range ids {
		if a, _ := decide.Form(x, id); a.Proved {
			terms = append(terms, a.Term)
		} else {
			models = append(models, a.Model)
		}
	}
	for _, id := range ids {
		a, _ := decide.Form(x, id)
		for _, y := range terms {
			b := api.Answer{Proved: true, Rows: a.Rows, Form: id, Term: y}
			if decide.Holds(b) == api.OK && !a.Proved {
				t.Errorf("%s: %s", says(t, x, id), showTerm(y))
			}
		}
		for _, m := range models {
			b := api.Answer{Rows: a.Rows, Form: id, Model: m}
			if decide.Holds(b) == api.OK && a.Proved {
				t.Errorf("%s: %s", says(t, x, id), show(b))
			}
		}
	}
}

// TestFollowsPut: P21.6, what is proved stays proved with formulas put in for its atoms.
func TestFollowsPut(t *testing.T) {
	chance := newChance(9)
	many := 0
	for _, text := range provedTexts() {
		for range 12 {
			x := formula.New()
			id := read(t, x, text)
			var images []api.Hyp
			for _, name := range []string{"p", "q", "r"} {
				images = append(images, api.Hyp{Name: name, Form: read(t, x, someText(chance, 1+chance.IntN(6), 3))})
			}
			put, e := subst.Put(x, id, images)
			if e != api.OK {
				t.Fatal(e)
			}
			a, e := heldForm(t, x, put)
			if e == api.OK && !a.Proved {
				t.Errorf("%s: %s is refuted: %s", text, says(t, x, put), show(a))
			}
			if e == api.OK {
				many++
			}
		}
	}
	if many < 250 {
		t.Error(many)
	}
}

// TestFollowsEqual: P21.6, formulas are equal to themselves, equal ones either way, and what is equal to what is equal to a third one is equal to it; equal ones are proved, and forced in a model, together.
func TestFollowsEqual(t *testing.T) {
	texts := []string{"p", "q", "p & q", "q & p", "p | q", "q | p", "p | p", "~p", "~~p", "~~~p", "~~~~p", "true", "p -> p", "p | ~p", "~~(p | ~p)", "false", "p & ~p", "p -> q", "~p | q", "~q -> ~p", "~~p -> ~~q", "p & (p -> q)", "(p -> q) -> q", "(p -> q) & (q -> p)"}
	x, ids := readAll(t, texts...)
	rows := x.Rows()
	equal := make([][]bool, len(ids))
	for i, a := range ids {
		for _, b := range ids {
			is, e := heldEqual(t, x, a, b)
			if e != api.OK {
				t.Fatal(e)
			}
			equal[i] = append(equal[i], is)
		}
	}
	var forced [][][]bool
	for _, m := range smallModels() {
		forced = append(forced, plainForced(rows, m))
	}
	for i, a := range ids {
		one, _ := decide.Form(x, a)
		for j, b := range ids {
			if equal[i][j] != equal[j][i] || i == j && !equal[i][j] {
				t.Errorf("%s and %s: %v, %v", texts[i], texts[j], equal[i][j], equal[j][i])
			}
			same := !slices.ContainsFunc(forced, func(f [][]bool) bool { return !slices.Equal(f[a], f[b]) })
			if equal[i][j] != same { // of these few formulas small models tell all that are unlike
				t.Errorf("%s and %s: %v, forced together %v", texts[i], texts[j], equal[i][j], same)
			}
			if two, _ := decide.Form(x, b); equal[i][j] && one.Proved != two.Proved {
				t.Errorf("%s and %s: %v, %v", texts[i], texts[j], one.Proved, two.Proved)
			}
			for k := range ids {
				if equal[i][j] && equal[j][k] && !equal[i][k] {
					t.Errorf("%s, %s and %s", texts[i], texts[j], texts[k])
				}
			}
		}
	}
}

// TestFollowsSequent: Entails proves just what the search proves of the sequent itself, where both end.
func TestFollowsSequent(t *testing.T) {
	chance := newChance(10)
	proved, refuted := 0, 0
	for range 1500 {
		x := made(t, someRows(chance, 2+chance.IntN(20), 1+chance.IntN(10), 3)...)
		s := api.Seq{Goal: chance.IntN(x.Len())}
		var left []int
		for range chance.IntN(4) {
			id := chance.IntN(x.Len())
			left = append(left, id)
			s.Left[0] |= 1 << id
		}
		a, e := decide.Entails(x, left, s.Goal)
		found, f := search.Run(x.Copy(), s, api.MaxVisits)
		if e != api.OK || f != api.OK {
			continue
		}
		if a.Proved != found.Proved {
			t.Fatalf("Entails(%v, %d) of %v: %s, the search %v", left, s.Goal, x.Rows(), show(a), found.Proved)
		}
		if a.Proved {
			proved++
		} else {
			refuted++
		}
	}
	if proved < 300 || refuted < 300 {
		t.Error(proved, refuted)
	}
}

// TestFollowsCut: W8, if A and A -> B are proved, so is B.
func TestFollowsCut(t *testing.T) {
	x := smallTable()
	rows := x.Rows()
	proved := make([]bool, len(rows))
	for id := range rows {
		a, _ := decide.Form(x, id)
		proved[id] = a.Proved
	}
	many := 0
	for a := range rows {
		for b := a % 7; b < len(rows) && proved[a]; b += 7 {
			c, e := decide.Entails(x, to(a), b)
			if c.Proved != proved[b] || e != api.OK {
				t.Fatalf("%s proves %s: %v, error %d", says(t, x, a), says(t, x, b), c.Proved, e)
			}
			many++
		}
	}
	if many < 1000 {
		t.Error(many)
	}
}
