package decide_test

import (
	"slices"
	"testing"

	"dictum/api"
	"dictum/counter"
	"dictum/decide"
	"dictum/formula"
	"dictum/search"
	"dictum/syntax"
	"dictum/translate"
	"dictum/types"
	"dictum/worlds"
)

// plainForm is P21.1 as it stands, of a table with these rows and a formula of it.
func plainForm(t *testing.T, rows []api.Node, id int) (api.Answer, api.Errno) {
	t.Helper()
	own := made(t, rows...)
	found, e := search.Run(own, api.Seq{Goal: id}, api.MaxVisits)
	if e == api.ErrBudget || e == api.ErrForms {
		return api.Answer{}, api.ErrBudget
	}
	if e != api.OK {
		t.Fatalf("Run of %d of %v: error %d", id, rows, e)
	}
	want := api.Answer{Rows: own.Rows(), Form: id, Visits: found.Visits}
	if found.Proved {
		want.Proved = true
		want.Term, e = translate.Term(own, found.Steps, len(found.Steps)-1)
	} else {
		want.Model, _, e = counter.Model(own, found.Steps, len(found.Steps)-1)
	}
	if e == api.ErrBig {
		return api.Answer{}, e
	}
	if e != api.OK {
		t.Fatalf("the last step of %d of %v: error %d", id, rows, e)
	}
	return want, api.OK
}

// plainEntails is P21.3 as it stands, of numbers that are rows'.
func plainEntails(t *testing.T, rows []api.Node, left []int, goal int) (api.Answer, api.Errno) {
	t.Helper()
	rows = slices.Clone(rows)
	for _, id := range slices.Backward(left) {
		n := imp(id, goal)
		if goal = slices.Index(rows, n); goal >= 0 {
			continue
		}
		if len(rows) == 1024 {
			return api.Answer{}, api.ErrBudget
		}
		goal, rows = len(rows), append(rows, n)
	}
	return plainForm(t, rows, goal)
}

// plainEqual is P21.4 as it stands, of numbers that are rows'.
func plainEqual(t *testing.T, rows []api.Node, a, b int) (bool, api.Errno) {
	t.Helper()
	one, e := plainEntails(t, rows, to(a), b)
	if e != api.OK {
		return false, e
	}
	two, e := plainEntails(t, rows, to(b), a)
	return one.Proved && two.Proved, e
}

// plainText is P21.2 as it stands.
func plainText(t *testing.T, text string) (api.Answer, api.Fault) {
	t.Helper()
	x := formula.New()
	id, f := syntax.Parse(x, text)
	if f.Code == api.ErrForms {
		return api.Answer{}, api.Fault{Code: api.ErrBudget}
	}
	if f.Code != api.OK {
		return api.Answer{}, f
	}
	a, e := plainForm(t, x.Rows(), id)
	return a, api.Fault{Code: e}
}

// plainAbove tells of each two worlds of a model whether the second one is above the first.
func plainAbove(up [][]int) [][]bool {
	above := make([][]bool, len(up))
	for a := range up {
		above[a] = make([]bool, len(up))
		above[a][a] = true
		next := to(a)
		for len(next) > 0 {
			w := next[0]
			next = next[1:]
			for _, b := range up[w] {
				if !above[a][b] {
					above[a][b] = true
					next = append(next, b)
				}
			}
		}
	}
	return above
}

// plainForced tells of each row, and of each world of a well-formed model, whether it is forced there, as P18.1 says it.
func plainForced(rows []api.Node, m api.Model) [][]bool {
	above := plainAbove(m.Up)
	forced := make([][]bool, len(rows))
	for id, n := range rows {
		forced[id] = make([]bool, len(m.Up))
		for w := range m.Up {
			is := false
			switch n.Kind {
			case api.KAtom:
				is = slices.Contains(m.Val[w], n.Name)
			case api.KAnd:
				is = forced[n.L][w] && forced[n.R][w]
			case api.KOr:
				is = forced[n.L][w] || forced[n.R][w]
			case api.KImp:
				is = true
				for v := range m.Up {
					is = is && (!above[w][v] || !forced[n.L][v] || forced[n.R][v])
				}
			}
			forced[id][w] = is
		}
	}
	return forced
}

// rightAnswer asks that an answer is one, and shows what it says: by layers 13 and 17 and by plainForced, and so Holds tells.
func rightAnswer(t *testing.T, a api.Answer) {
	t.Helper()
	x := made(t, a.Rows...)
	if a.Form < 0 || a.Form >= len(a.Rows) || a.Visits < 1 || a.Visits > api.MaxVisits {
		t.Fatal(show(a))
	}
	if a.Proved {
		if e := types.Check(x, nil, a.Term, a.Form); e != api.OK || !alikeModel(a.Model, api.Model{}) {
			t.Fatalf("%s: error %d", show(a), e)
		}
	} else {
		if e := worlds.Check(a.Model); e != api.OK || !alikeTerm(a.Term, api.Term{}) {
			t.Fatalf("%s: error %d", show(a), e)
		}
		if plainForced(a.Rows, a.Model)[a.Form][0] {
			t.Fatalf("%s: world 0 forces it", show(a))
		}
	}
	untouched(t, x, nil, a, func() {
		if e := decide.Holds(a); e != api.OK {
			t.Fatalf("%s: Holds answers %d", show(a), e)
		}
	})
}

// heldForm asks that Form answers what P21.1 says, which is right, and leaves the table; and answers it.
func heldForm(t *testing.T, x *formula.Table, id int) (api.Answer, api.Errno) {
	t.Helper()
	want, refusal := plainForm(t, x.Rows(), id)
	var got api.Answer
	var e api.Errno
	untouched(t, x, nil, api.Answer{}, func() { got, e = decide.Form(x, id) })
	if !alike(got, want) || e != refusal {
		t.Fatalf("Form(%d) of %v: %s, error %d, not %s, error %d", id, x.Rows(), show(got), e, show(want), refusal)
	}
	if e == api.OK {
		rightAnswer(t, got)
	}
	return got, e
}

// heldEntails asks that Entails answers what P21.3 says, which is right, and leaves the table and the numbers; and answers it.
func heldEntails(t *testing.T, x *formula.Table, left []int, goal int) (api.Answer, api.Errno) {
	t.Helper()
	want, refusal := plainEntails(t, x.Rows(), left, goal)
	var got api.Answer
	var e api.Errno
	untouched(t, x, left, api.Answer{}, func() { got, e = decide.Entails(x, left, goal) })
	if !alike(got, want) || e != refusal {
		t.Fatalf("Entails(%v, %d) of %v: %s, error %d, not %s, error %d", left, goal, x.Rows(), show(got), e, show(want), refusal)
	}
	if e == api.OK {
		rightAnswer(t, got)
	}
	return got, e
}

// heldEqual asks that Equal answers what P21.4 says, and leaves the table; and answers it.
func heldEqual(t *testing.T, x *formula.Table, a, b int) (bool, api.Errno) {
	t.Helper()
	want, refusal := plainEqual(t, x.Rows(), a, b)
	var got bool
	var e api.Errno
	untouched(t, x, nil, api.Answer{}, func() { got, e = decide.Equal(x, a, b) })
	if got != want || e != refusal {
		t.Fatalf("Equal(%d, %d) of %v: %v, error %d, not %v, error %d", a, b, x.Rows(), got, e, want, refusal)
	}
	return got, e
}

// heldText asks that Text answers what P21.2 says, which is right; and answers it.
func heldText(t *testing.T, text string) (api.Answer, api.Fault) {
	t.Helper()
	want, fault := plainText(t, text)
	got, f := decide.Text(text)
	if !alike(got, want) || f != fault {
		t.Fatalf("Text(%.300q): %s, fault %v, not %s, fault %v", text, show(got), f, show(want), fault)
	}
	if f.Code == api.OK {
		rightAnswer(t, got)
	}
	return got, f
}

// refusesForm asks for that error of Form beside nothing.
func refusesForm(t *testing.T, x *formula.Table, id int, want api.Errno) {
	t.Helper()
	untouched(t, x, nil, api.Answer{}, func() {
		if a, e := decide.Form(x, id); !zero(a) || e != want {
			t.Errorf("Form(%d): %s, error %d, not error %d", id, show(a), e, want)
		}
	})
}

// refusesEntails asks for that error of Entails beside nothing.
func refusesEntails(t *testing.T, x *formula.Table, left []int, goal int, want api.Errno) {
	t.Helper()
	untouched(t, x, left, api.Answer{}, func() {
		if a, e := decide.Entails(x, left, goal); !zero(a) || e != want {
			t.Errorf("Entails(%s, %d): %s, error %d, not error %d", short(showNumbers(left)), goal, show(a), e, want)
		}
	})
}

// refusesEqual asks for that error of Equal beside false.
func refusesEqual(t *testing.T, x *formula.Table, a, b int, want api.Errno) {
	t.Helper()
	untouched(t, x, nil, api.Answer{}, func() {
		if is, e := decide.Equal(x, a, b); is || e != want {
			t.Errorf("Equal(%d, %d): %v, error %d, not error %d", a, b, is, e, want)
		}
	})
}

// refusesText asks for that fault of Text beside nothing.
func refusesText(t *testing.T, text string, want api.Fault) {
	t.Helper()
	if a, f := decide.Text(text); !zero(a) || f != want {
		t.Errorf("Text(%.300q): %s, fault %v, not %v", text, show(a), f, want)
	}
}

// holds asks for that error of Holds, or OK.
func holds(t *testing.T, a api.Answer, want api.Errno) {
	t.Helper()
	untouched(t, nil, nil, a, func() {
		if e := decide.Holds(a); e != want {
			t.Errorf("Holds of %s: error %d, not %d", show(a), e, want)
		}
	})
}
