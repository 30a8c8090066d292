package counter_test

import (
	"slices"
	"strconv"
	"testing"

	"dictum/api"
	"dictum/counter"
	"dictum/formula"
	"dictum/worlds"
)

const most = api.MaxWorlds

// layered are a table and stuck steps of p, p | p, (p | p) | (p | p) and so on: so many of each, from p on, each on two of those ahead of it, as many of these as may be.
func layered(t *testing.T, many ...int) (*formula.Table, []api.Step) {
	t.Helper()
	x := made(t, atom("p"))
	var steps []api.Step
	begin, before := 0, 0
	for level, wide := range many {
		if level > 0 {
			x.Or(level-1, level-1)
		}
		for i := range wide {
			if level == 0 {
				steps = append(steps, stuck(seq(0)))
				continue
			}
			steps = append(steps, stuck(seq(level), begin+2*i%before, begin+(2*i+1)%before))
		}
		begin, before = len(steps)-wide, wide
	}
	return x, steps
}

// big asks for a model of so many worlds, or for ErrBig of too many, and for the step's World in any case.
func big(t *testing.T, x *formula.Table, steps []api.Step, at, many int) {
	t.Helper()
	untouched(t, x, steps, api.Model{}, func() {
		if w, e := counter.World(x, steps, at); w != plainWorld(steps, at) || e != api.OK {
			t.Errorf("World of %d: %d, error %d", at, w, e)
		}
		m, l, e := counter.Model(x, steps, at)
		if many > most {
			if !empty(m) || len(l) != 0 || e != api.ErrBig {
				t.Errorf("%d worlds: %s, %d numbers, error %d", many, show(m), len(l), e)
			}
			return
		}
		want, from := plainModel(x.Rows(), steps, at)
		if len(m.Up) != many || !alike(m, want) || !slices.Equal(l, from) || e != api.OK {
			t.Errorf("%d worlds: %s, %d numbers, error %d", many, show(m), len(l), e)
		}
		if e := worlds.Check(m); e != api.OK {
			t.Errorf("%s: error %d", show(m), e)
		}
	})
}

// TestLimitLayers: P20.2, 512 worlds and one more, of steps of which many are of one sequent.
func TestLimitLayers(t *testing.T) {
	for _, c := range []struct {
		widths []int
		many   int
	}{
		{to(256, 128, 64, 32, 16, 8, 4, 2, 1), 511},
		{to(256, 128, 64, 32, 16, 8, 4, 2, 1, 1), 512},
		{to(256, 128, 64, 32, 16, 8, 4, 2, 2, 1), 513},
		{to(256, 128, 64, 32, 16, 8, 4, 2, 1, 1, 1), 513},
		{to(128, 128, 128, 64, 32, 16, 8, 4, 2, 1, 1), 512},
		{to(129, 128, 128, 64, 32, 16, 8, 4, 2, 1, 1), 513},
		{to(512, 256, 128, 64, 32, 16, 8, 4, 2, 1), 1023},
		{to(4096, 2048, 1024, 512, 256, 128, 64, 32, 16, 8, 4, 2, 1), 8191},
	} {
		x, steps := layered(t, c.widths...)
		if len(steps) != c.many {
			t.Fatal(len(steps), c.many)
		}
		big(t, x, steps, len(steps)-1, c.many)
	}
}

// TestLimitChain: P20.2, 512 worlds one above the other and one more: to the last of them more ways lead than anybody could go.
func TestLimitChain(t *testing.T) {
	x, steps := layered(t, slices.Repeat(to(1), 600)...)
	for _, at := range to(0, 1, 62, 63, 64, 65, 255, 510, 511, 512, 513, 599) {
		big(t, x, steps, at, at+1)
	}
	m, l, e := counter.Model(x, steps, 511)
	down := run(0, 512)
	slices.Reverse(down)
	if !alike(m, chain(512)) || !slices.Equal(l, down) || e != api.OK {
		t.Error(show(m), e)
	}
}

// TestLimitOfOthers: P20.2, stuck steps that are no worlds of a model do not count, however many there are.
func TestLimitOfOthers(t *testing.T) {
	x := exampleTable(t)
	steps := slices.Repeat([]api.Step{stuck(seq(0))}, 700)
	steps = append(steps, stuck(seq(2, 0)), refuted(seq(4), api.RuleImpR, 4, 700), stuck(seq(5), 333, 701))
	right(t, x, steps)
	m, l, e := counter.Model(x, steps, 702)
	if !alike(m, exampleModel()) || !slices.Equal(l, to(702, 700, 333)) || e != api.OK {
		t.Error(show(m), l, e)
	}
	for _, at := range to(0, 699) {
		if m, l, e := counter.Model(x, steps, at); !alike(m, apart(1)) || !slices.Equal(l, to(at)) || e != api.OK {
			t.Error(show(m), l, e)
		}
	}
}

// TestLimitOrder: P20.2, of steps whose model would be too large ErrSteps and ErrArg come first.
func TestLimitOrder(t *testing.T) {
	x, steps := layered(t, slices.Repeat(to(1), 600)...)
	last := len(steps)
	for _, at := range noPlaces(last) {
		refusesSteps(t, x, steps, at, api.ErrArg)
	}
	refusesSteps(t, x, append(copied(steps), proved(seq(0, 0), api.RuleId, 0)), last, api.ErrArg)
	big(t, x, append(copied(steps), proved(seq(0, 0), api.RuleId, 0)), last-1, 600)
	for _, at := range append(noPlaces(last), 0, last-1, last) {
		refusesSteps(t, x, append(copied(steps), proved(seq(0, 0), api.RuleId, 1)), at, api.ErrSteps)
	}
}

// notNot is a sequent with so many formulas ~~a on the left and another atom for its goal; the atoms' numbers fall where their names rise.
func notNot(t *testing.T, x *formula.Table, many int) api.Seq {
	t.Helper()
	text := ""
	for i := range many {
		text += "~~a" + strconv.Itoa(900-i) + ", "
	}
	return readSeq(t, x, text[:len(text)-2]+" |- b")
}

// TestLimitSets: P20.2, of ~~a of nine atoms on the left there is a world for each set of them: 512; of ten there are 1024.
func TestLimitSets(t *testing.T) {
	for many, want := range map[int]int{1: 2, 4: 16, 8: 256, 9: 512, 10: 1024} {
		x := formula.New()
		s := notNot(t, x, many)
		steps := find(t, x, s, nil, 20000)
		big(t, x, steps, len(steps)-1, want)
		if want > most {
			continue
		}
		m, _, _ := counter.Model(x, steps, len(steps)-1)
		if is, e := counter.Refutes(x, m, 0, s); !is || e != api.OK {
			t.Error(many, is, e)
		}
		n, l, e := counter.Shrink(x, m, s)
		if !alike(n, api.Model{Up: [][]int{{1}, nil}, Val: [][]string{nil, m.Val[want-1]}}) || !slices.Equal(l, to(0, want-1)) || len(m.Val[want-1]) != many || e != api.OK {
			t.Error(many, show(n), l, e)
		}
	}
}

// TestLimitFar: P20.1 and P20.2, a world that is a thousand steps away, and many steps that stand on one another without being worlds.
func TestLimitFar(t *testing.T) {
	x := made(t, atom("p"), atom("q"), join(api.KImp, 1, 0))
	steps := []api.Step{stuck(seq(0, 1)), refuted(seq(2, 1), api.RuleImpR, 2, 0)}
	for id := 3; id < api.MaxForms; id++ { // q -> (q -> p), q -> (q -> (q -> p)), ..
		x.Imp(1, id-1)
		steps = append(steps, refuted(seq(id, 1), api.RuleImpR, id, len(steps)-1))
	}
	steps = append(steps, refuted(seq(api.MaxForms-1), api.RuleImpR, api.MaxForms-1, len(steps)-2))
	right(t, x, steps)
	for _, at := range to(0, 1, 500, len(steps)-1) {
		if w, e := counter.World(x, steps, at); w != 0 || e != api.OK {
			t.Error(at, w, e)
		}
		if m, l, e := counter.Model(x, steps, at); !alike(m, with(apart(1), "q")) || !slices.Equal(l, to(0)) || e != api.OK {
			t.Error(at, show(m), l, e)
		}
	}
}

// TestLimitLongVal: P20.2, a thousand atoms on the left, with numbers up to the last one.
func TestLimitLongVal(t *testing.T) {
	x := made(t, atom("b"))
	var left []int
	var want []string
	for id := 1; id < api.MaxForms; id++ {
		name := "a" + strconv.Itoa(5000-id)
		x.Atom(name)
		left, want = append(left, id), append(want, name)
	}
	slices.Sort(want)
	steps := []api.Step{stuck(seq(0, left...))}
	right(t, x, steps)
	m, _, e := counter.Model(x, steps, 0)
	if !alike(m, api.Model{Up: [][]int{nil}, Val: [][]string{want}}) || e != api.OK {
		t.Error(show(m), e)
	}
	if is, e := counter.Refutes(x, m, 0, seq(0, left...)); !is || e != api.OK {
		t.Error(is, e)
	}
	if is, e := counter.Refutes(x, m, 0, seq(1023, left...)); is || e != api.OK {
		t.Error(is, e)
	}
	if is, e := counter.Refutes(x, with(apart(1), "a4000"), 0, seq(1023, 1000)); !is || e != api.OK {
		t.Error(is, e)
	}
	if is, e := counter.Refutes(x, with(apart(1), "a4000"), 0, seq(0, 1000, 1023)); is || e != api.OK {
		t.Error(is, e)
	}
	if n, l, e := counter.Shrink(x, m, seq(0, left...)); !alike(n, m) || !slices.Equal(l, to(0)) || e != api.OK {
		t.Error(show(n), l, e)
	}
}

// TestLimitShrink: P20.4, 512 worlds, of which one is left, a few, or many.
func TestLimitShrink(t *testing.T) {
	for _, m := range []api.Model{chain(most), fan(most), apart(most)} {
		shrinks(t, m, "|- p", to(0), nil)
	}
	last := chain(most)
	last.Val[most-1] = names("p")
	shrinks(t, last, "~~p |- p", to(0, most-1), to(1), nil)
	full := apart(most)
	full.Val[300], full.Val[most-1] = names("p"), names("p,q")
	for w := range most {
		full.Up[w] = run(w, most)
		if w > 300 && w < most-1 {
			full.Val[w] = names("p")
		}
	}
	shrinks(t, full, "~~q |- p -> q", to(0, 300, most-1), to(1), to(2), nil)
	many := fan(most)
	text, want, rows := "|- ", to(0), [][]int{run(1, 101)}
	for w := 1; w < most; w++ {
		many.Val[w] = names("a" + strconv.Itoa(w))
		if w%5 == 0 && w <= 500 {
			text += "~a" + strconv.Itoa(w) + " | "
			want, rows = append(want, w), append(rows, nil)
		}
	}
	shrinks(t, many, text+"false", want, rows...)
}

// TestLimitDoubled: P20.3 and P20.4, a formula of 1024 rows, each of which is the one ahead of it twice: written out, nobody could go through it.
func TestLimitDoubled(t *testing.T) {
	x := made(t, atom("p"))
	for id := 1; id < api.MaxForms; id++ {
		x.Put(join(api.KAnd+api.Kind(id%2), id-1, id-1))
	}
	last := api.MaxForms - 1
	m := with(up(to(1), to(2), nil), "", "p", "p")
	for w, want := range []bool{true, false, false} {
		if is, e := counter.Refutes(x, m, w, seq(last)); is != want || e != api.OK {
			t.Error(w, is, e)
		}
	}
	if n, l, e := counter.Shrink(x, m, seq(last)); !alike(n, apart(1)) || !slices.Equal(l, to(0)) || e != api.OK {
		t.Error(show(n), l, e)
	}
	if n, l, e := counter.Shrink(x, with(m, "p", "p", "p,q"), seq(last, last-1)); !empty(n) || len(l) != 0 || e != api.ErrMorph {
		t.Error(show(n), l, e)
	}
}
