package decide_test

import (
	"math"
	"math/rand/v2"
	"slices"
	"strconv"
	"testing"

	"dictum/api"
	"dictum/decide"
	"dictum/formula"
	"dictum/types"
	"dictum/worlds"
)

// noRows are rows that are no table, with layer 3's error.
func noRows() map[string]struct {
	rows []api.Node
	want api.Errno
} {
	many := []api.Node{bot()}
	for i := range api.MaxForms {
		many = append(many, atom("a"+strconv.Itoa(i)))
	}
	return map[string]struct {
		rows []api.Node
		want api.Errno
	}{
		"no kind":      {[]api.Node{{}}, api.ErrForm},
		"kind 6":       {[]api.Node{bot(), {Kind: 6}}, api.ErrForm},
		"twice":        {[]api.Node{bot(), bot()}, api.ErrForm},
		"itself":       {[]api.Node{bot(), imp(0, 1)}, api.ErrForm},
		"later":        {[]api.Node{imp(1, 1), atom("p")}, api.ErrForm},
		"below 0":      {[]api.Node{atom("p"), imp(0, -1)}, api.ErrForm},
		"named false":  {[]api.Node{{Kind: api.KBot, Name: "p"}}, api.ErrForm},
		"no name":      {[]api.Node{atom("")}, api.ErrAtom},
		"word":         {[]api.Node{bot(), atom("let")}, api.ErrAtom},
		"both":         {[]api.Node{atom("let"), bot(), bot()}, api.ErrAtom},
		"both turned":  {[]api.Node{bot(), bot(), atom("let")}, api.ErrForm},
		"too many":     {many, api.ErrForms},
		"many, turned": {append([]api.Node{atom("1")}, many...), api.ErrAtom},
	}
}

// noTerms are terms that layer 13 refuses at formula 3, p -> p, of the rows p 0, false 1, p | p 2, with its error.
func noTerms() map[api.Errno][]api.Term {
	deep := v("x")
	for range api.MaxDeep {
		deep = lam("x", deep)
	}
	wide := v("x")
	for range 16 {
		wide = of(api.TPair, wide, wide)
	}
	return map[api.Errno][]api.Term{
		api.ErrLarge:  {deep, wide, lam("x", deep)},
		api.ErrTerm:   {{}, of(13, v("x")), lam("x", api.Term{}), lam("let", v("let")), of(api.TLam, v("x"))},
		api.ErrType:   {lam("x", lam("y", v("x"))), of(api.TInl, lam("x", v("x"))), of(api.TPair, lam("x", v("x")), lam("x", v("x"))), the(lam("x", v("x")), 2), of(api.TAbort, the(lam("x", v("x")), 3))},
		api.ErrName:   {v("x"), lam("x", v("y")), lam("h0", v("h1"))},
		api.ErrUnsaid: {of(api.TApp, lam("x", v("x")), lam("x", v("x"))), let("y", lam("x", v("x")), v("y"))},
		api.ErrForm:   {the(lam("x", v("x")), 4), lam("x", the(v("x"), 1023))},
	}
}

// noModels are models that are not well-formed.
func noModels() []api.Model {
	return []api.Model{
		{},
		{Up: [][]int{{}}},
		{Val: [][]string{{}}},
		{Up: [][]int{{}, {}}, Val: [][]string{{}}},
		up(to(1)),
		up(to(-1)),
		up(to(1), to(0)),
		up(nil, to(2), to(1)),
		with(up(to(1), nil), "p", ""),
		with(up(nil), "q,p"),
		with(up(nil), "p,p"),
		with(up(nil), "false"),
		chain(api.MaxWorlds + 1),
	}
}

// holdRows are the rows of the tests below.
func holdRows() []api.Node { return []api.Node{atom("p"), bot(), join(api.KOr, 0, 0), imp(0, 0)} }

// someAnswers are answers that are right but for the part that a test puts in, of both kinds.
func someAnswers() []api.Answer {
	return []api.Answer{
		{Proved: true, Rows: holdRows(), Form: 3, Term: lam("x", v("x")), Visits: 2},
		{Rows: holdRows(), Form: 2, Model: up(nil), Visits: 2},
		{Rows: holdRows(), Form: 0, Model: with(chain(2), "", "p")},
	}
}

// TestHoldsRight: P21.5, OK of answers that show what they say, whether they are Form's or not.
func TestHoldsRight(t *testing.T) {
	for _, a := range someAnswers() {
		holds(t, a, api.OK)
	}
	for _, x := range []api.Term{lam("h0", v("h0")), lam("z", the(v("z"), 0)), the(lam("z", v("z")), 3), lam("x", let("y", v("x"), v("y"))), of(api.TApp, the(lam("x", lam("y", v("y"))), 4), lam("x", v("x")))} {
		holds(t, api.Answer{Proved: true, Rows: append(holdRows(), imp(3, 3)), Form: 3, Term: x}, api.OK)
	}
	for _, m := range []api.Model{up(nil), up(nil, nil), up(to(0)), chain(api.MaxWorlds), up(nil, to(0)), with(up(nil, nil), "", "p"), with(up(to(1), nil), "q", "p,q")} {
		for _, form := range to(0, 1, 2) {
			holds(t, api.Answer{Rows: holdRows(), Form: form, Model: m}, api.OK)
		}
	}
}

// TestHoldsRows: P21.5, layer 3's error of Rows comes first, whatever else is wrong.
func TestHoldsRows(t *testing.T) {
	for name, c := range noRows() {
		if x, e := formula.From(c.rows); x != nil || e != c.want {
			t.Fatal(name, e)
		}
		for _, form := range append(noForms(len(c.rows)), 0) {
			for _, proved := range []bool{false, true} {
				holds(t, api.Answer{Proved: proved, Rows: c.rows, Form: form}, c.want)
				holds(t, api.Answer{Proved: proved, Rows: c.rows, Form: form, Term: lam("x", v("x")), Model: up(nil)}, c.want)
			}
		}
	}
}

// TestHoldsForm: P21.5, ErrForm of a number that is no row's comes next, ahead of what is wrong with a term or a model.
func TestHoldsForm(t *testing.T) {
	holds(t, api.Answer{}, api.ErrForm)
	holds(t, api.Answer{Proved: true}, api.ErrForm)
	for _, form := range noForms(4) {
		for _, a := range someAnswers() {
			a.Form = form
			holds(t, a, api.ErrForm)
			a.Term, a.Model = api.Term{}, api.Model{}
			holds(t, a, api.ErrForm)
			a.Proved = !a.Proved
			holds(t, a, api.ErrForm)
		}
		for _, l := range noTerms() {
			holds(t, api.Answer{Proved: true, Rows: holdRows(), Form: form, Term: l[0]}, api.ErrForm)
		}
	}
	room := append(holdRows(), atom("q"))[:4] // R7: a row behind the end is none
	holds(t, api.Answer{Rows: room, Form: 4, Model: up(nil)}, api.ErrForm)
}

// TestHoldsTerm: P21.5, of what is Proved layer 13's error of the term; the model is not looked at.
func TestHoldsTerm(t *testing.T) {
	x := made(t, holdRows()...)
	for want, l := range noTerms() {
		for _, y := range l {
			if e := types.Check(x, nil, y, 3); e != want {
				t.Fatalf("%s: error %d, not %d", showTerm(y), e, want)
			}
			for _, m := range append(noModels(), up(nil), chain(3)) {
				holds(t, api.Answer{Proved: true, Rows: holdRows(), Form: 3, Term: y, Model: m}, want)
			}
		}
	}
	for _, m := range append(noModels(), up(nil), with(chain(2), "", "p")) {
		holds(t, api.Answer{Proved: true, Rows: holdRows(), Form: 3, Term: lam("x", v("x")), Model: m}, api.OK)
	}
	for form, want := range []api.Errno{api.ErrType, api.ErrType, api.ErrType, api.OK} {
		holds(t, api.Answer{Proved: true, Rows: holdRows(), Form: form, Term: lam("x", v("x"))}, want)
	}
}

// TestHoldsModel: P21.5, of what is not Proved ErrModel of a model that is not well-formed, and of one whose world 0 forces the formula, whatever other worlds do; the term is not looked at.
func TestHoldsModel(t *testing.T) {
	terms := []api.Term{{}, lam("x", v("x")), {Kind: -1, Form: -1}}
	for _, l := range noTerms() {
		terms = append(terms, l...)
	}
	for _, y := range terms {
		for _, m := range noModels() {
			if e := worlds.Check(m); e != api.ErrModel {
				t.Fatal(e)
			}
			for form := range holdRows() {
				holds(t, api.Answer{Rows: holdRows(), Form: form, Term: y, Model: m}, api.ErrModel)
			}
		}
		for _, m := range []api.Model{with(up(nil), "p"), with(up(nil, nil), "p", ""), with(up(nil, to(0)), "p", ""), with(chain(2), "p", "p,q")} {
			for form, want := range []api.Errno{api.ErrModel, api.OK, api.ErrModel, api.ErrModel} {
				holds(t, api.Answer{Rows: holdRows(), Form: form, Term: y, Model: m}, want)
			}
		}
		for _, m := range []api.Model{up(nil), with(up(nil, nil), "", "p"), with(chain(3), "", "", "p")} {
			for form, want := range []api.Errno{api.OK, api.OK, api.OK, api.ErrModel} {
				holds(t, api.Answer{Rows: holdRows(), Form: form, Term: y, Model: m}, want)
			}
		}
	}
}

// TestHoldsRound: R1, a term that is a part of itself is too large.
func TestHoldsRound(t *testing.T) {
	for _, k := range []api.TermKind{api.TLam, api.TFst, api.TThe} {
		round := make([]api.Term, 1)
		round[0] = api.Term{Kind: k, Name: "x", Sub: round}
		if e := decide.Holds(api.Answer{Proved: true, Rows: holdRows(), Form: 3, Term: round[0]}); e != api.ErrLarge {
			t.Error(k, e)
		}
	}
}

// TestHoldsVisits: P21.5, Visits are not looked at.
func TestHoldsVisits(t *testing.T) {
	for _, many := range []int{0, 1, -1, 4096, 4097, math.MaxInt, math.MinInt} {
		for _, a := range someAnswers() {
			a.Visits = many
			holds(t, a, api.OK)
		}
	}
}

// turned is a term with one node by chance turned.
func turned(chance *rand.Rand, x api.Term) api.Term {
	x = cloneTerm(x)
	at := &x
	for len(at.Sub) > 0 && chance.IntN(6) > 0 {
		at = &at.Sub[chance.IntN(len(at.Sub))]
	}
	switch chance.IntN(7) {
	case 0:
		at.Name += "x"
	case 1:
		at.Other += "x"
	case 2:
		at.Form++
	case 3:
		slices.Reverse(at.Sub)
	case 4:
		at.Sub = append(at.Sub, v("x"))
	case 5:
		*at = lam("x", *at)
	default:
		at.Kind = api.TermKind(chance.IntN(14))
	}
	return x
}

// TestHoldsTurnedTerm: P21.5, of a term in which one node is turned the checker's error.
func TestHoldsTurnedTerm(t *testing.T) {
	chance := newChance(7)
	got := map[api.Errno]int{}
	for _, text := range provedTexts() {
		a, _ := decide.Text(text)
		x := made(t, a.Rows...)
		for range 300 {
			b := a
			b.Term = turned(chance, a.Term)
			want := types.Check(x, nil, b.Term, a.Form)
			holds(t, b, want)
			got[want]++
		}
	}
	for _, e := range []api.Errno{api.OK, api.ErrTerm, api.ErrType, api.ErrName, api.ErrUnsaid} {
		if got[e] < 20 {
			t.Error(e, got)
		}
	}
}

// TestHoldsTurnedModel: P21.5, of a model in which one thing is turned, and of another formula, ErrModel just if it is not well-formed, or forced.
func TestHoldsTurnedModel(t *testing.T) {
	got := map[api.Errno]int{}
	for _, text := range refutedTexts() {
		a, _ := decide.Text(text)
		for w := range a.Model.Up {
			for turn := range 5 {
				b := clone(a)
				switch turn {
				case 0:
					b.Model.Val[w] = append(b.Model.Val[w], "zz")
				case 1:
					b.Model.Val[w] = nil
				case 2:
					b.Model.Up[w] = nil
				case 3:
					b.Model.Up[w] = append(b.Model.Up[w], 0)
				case 4:
					b.Model.Val[w] = []string{"p"}
				}
				for form := range b.Rows {
					b.Form = form
					want := worlds.Check(b.Model)
					if want == api.OK && plainForced(b.Rows, b.Model)[form][0] {
						want = api.ErrModel
					}
					holds(t, b, want)
					got[want]++
				}
			}
		}
	}
	if got[api.OK] < 100 || got[api.ErrModel] < 100 || len(got) != 2 {
		t.Error(got)
	}
}

// TestHoldsOtherKind: P21.5, an answer that says the other thing does not hold.
func TestHoldsOtherKind(t *testing.T) {
	for _, text := range slices.Concat(provedTexts(), refutedTexts()) {
		a, _ := decide.Text(text)
		want := api.ErrModel // a proved formula has no model here, and one that has is forced everywhere
		if !a.Proved {
			want = api.ErrTerm
		}
		a.Proved = !a.Proved
		holds(t, a, want)
		a.Model = up(nil)
		holds(t, a, want)
	}
}
