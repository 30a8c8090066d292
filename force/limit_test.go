package force_test

import (
	"slices"
	"testing"

	"dictum/api"
	"dictum/force"
	"dictum/formula"
)

// doubling has so many rows: p, and then each joined of the one ahead of it twice, so that the last one written out would never end.
func doubling(t *testing.T, k api.Kind, many int) *formula.Table {
	t.Helper()
	x := made(t, api.Node{Kind: api.KAtom, Name: "p"})
	for x.Len() < many {
		if _, e := x.Put(join(k, x.Len()-1, x.Len()-1)); e != api.OK {
			t.Fatal(e)
		}
	}
	return x
}

// TestLimitChain: P18.1 and P18.2, a chain of as many worlds as a model may have, in which p is true from world 300 on, and q in the last one.
func TestLimitChain(t *testing.T) {
	m := from(from(chain(api.MaxWorlds), 300, "p"), api.MaxWorlds-1, "q")
	x := formula.New()
	for s, begins := range map[string]int{
		"p": 300, "q": 511, "false": 512, "true": 0, "~p": 512, "~~p": 0, "p | ~p": 300, "p -> q": 511, "q -> p": 0,
		"(p -> q) | (q -> p)": 0, "((p -> q) -> p) -> p": 300, "q | (q -> p | (p -> false))": 0, "~~q -> q": 511, "p & q": 511, "p | q": 300, "r": 512, "~r": 0,
	} {
		id := read(t, x, s)
		want := run(begins, 512)
		if l, e := force.Worlds(x, m, id); !slices.Equal(l, want) || e != api.OK {
			t.Errorf("Worlds(%s): %d of them, error %d, not %d", s, len(l), e, len(want))
		}
		if is, e := force.Valid(x, m, id); is != (begins == 0) || e != api.OK {
			t.Errorf("Valid(%s): %v, error %d", s, is, e)
		}
		for _, w := range []int{0, 1, 63, 64, 299, 300, 510, 511} {
			if is, e := force.At(x, m, w, id); is != (w >= begins) || e != api.OK {
				t.Errorf("At(%d, %s): %v, error %d", w, s, is, e)
			}
			if all, e := force.All(x, m, w); slices.Contains(numbers(all), id) != (w >= begins) || e != api.OK {
				t.Errorf("All(%d): %v, error %d", w, numbers(all), e)
			}
		}
		if is, e := force.Holds(x, m, seq(id, read(t, x, "p"))); is != (begins <= 300) || e != api.OK {
			t.Errorf("Holds(p |- %s): %v, error %d", s, is, e)
		}
	}
}

// TestLimitFalling: P18.1, the same with the worlds the other way round.
func TestLimitFalling(t *testing.T) {
	m := turned(from(chain(api.MaxWorlds), 300, "p"))
	x := formula.New()
	for s, want := range map[string][]int{"p | ~p": run(0, 212), "~~p": run(0, 512), "~p": nil, "p": run(0, 212)} {
		if l, e := force.Worlds(x, m, read(t, x, s)); !slices.Equal(l, want) || e != api.OK {
			t.Errorf("Worlds(%s): %v, error %d", s, l, e)
		}
	}
}

// TestLimitWays: R1, worlds to which there are more ways up than anybody could go.
func TestLimitWays(t *testing.T) {
	m := apart(api.MaxWorlds)
	for w := range 510 {
		m.Up[w] = to(w/2*2+2, w/2*2+3)
	}
	m.Val[511] = []string{"p"}
	x := formula.New()
	for s, want := range map[string][]int{"~~p": to(511), "~p": to(510), "p | ~p": to(510, 511), "~p | ~~p": to(510, 511), "~~(p | ~p)": run(0, 512)} {
		if l, e := force.Worlds(x, m, read(t, x, s)); !slices.Equal(l, want) || e != api.OK {
			t.Errorf("Worlds(%s): %v, error %d", s, l, e)
		}
	}
}

// TestLimitDense: R1, each world told below each with a greater number, several times.
func TestLimitDense(t *testing.T) {
	m := apart(api.MaxWorlds)
	for w := range m.Up {
		m.Up[w] = append(run(w, 512), run(w, 512)...)
	}
	m = from(m, 100, "p")
	x := doubling(t, api.KImp, 800)
	for x.Len() < api.MaxForms {
		x.Imp(x.Len()-1, 0)
	}
	for _, w := range []int{0, 99, 100, 511} {
		all, e := force.All(x, m, w)
		if e != api.OK {
			t.Fatal(e)
		}
		for id := range x.Len() {
			always := id > 0 && id < 800 || id > 800 && id%2 == 1 // behind true comes true -> p, then that -> p
			if is := slices.Contains(numbers(all), id); is != (always || w >= 100) {
				t.Fatalf("world %d, formula %d: %v", w, id, is)
			}
		}
	}
}

// TestLimitDoubling: R1, formulas that have each part twice, as deep as a table allows, in models and on a frame.
func TestLimitDoubling(t *testing.T) {
	last := api.MaxForms - 1
	for _, k := range kinds() {
		x := doubling(t, k, api.MaxForms)
		m := exampleModel()
		want := to(1)
		if k == api.KImp {
			want = to(0, 1)
		}
		if l, e := force.Worlds(x, m, last); !slices.Equal(l, want) || e != api.OK {
			t.Errorf("Worlds: %v, error %d", l, e)
		}
		if is, e := force.Holds(x, m, seq(last, last-1)); !is || e != api.OK {
			t.Errorf("Holds: %v, error %d", is, e)
		}
		is, got, e := force.Frame(x, apart(5), last)
		if is != (k == api.KImp) || e != api.OK || !is && !alike(got, apart(5)) {
			t.Errorf("Frame: %v, %s, error %d", is, show(got), e)
		}
	}
}

// TestLimitFrame: P18.3, as many models as there may be are gone through of what is valid; of another formula the first one is told, which of one world is the last one of all.
func TestLimitFrame(t *testing.T) {
	x := formula.New()
	if is, got, e := force.Frame(x, apart(5), read(t, x, "(p -> q) | (q -> r) | (r -> p)")); !is || !empty(got) || e != api.OK {
		t.Error(is, show(got), e)
	}
	id := read(t, x, "~(r & q & p)")
	for _, want := range []api.Model{
		with(chain(5), "", "", "", "", "p,q,r"),
		with(apart(5), "p,q,r", "", "", "", ""),
		with(apart(1), "p,q,r"),
	} {
		frame := api.Model{Up: want.Up, Val: make([][]string, len(want.Up))}
		if is, got, e := force.Frame(x, frame, id); is || !alike(got, want) || e != api.OK {
			t.Error(is, show(got), e)
		}
	}
}

// TestLimitNames: P18.1, names of 31 bytes, of which one is a beginning of the other.
func TestLimitNames(t *testing.T) {
	long := "abcdefghijklmnopqrstuvwxyz01234"
	x := formula.New()
	a, _ := x.Atom(long)
	b, _ := x.Atom(long[:30])
	m := with(apart(3), long[:30], long, long[:30]+","+long)
	for id, want := range map[int][]int{a: to(1, 2), b: to(0, 2)} {
		if l, e := force.Worlds(x, m, id); !slices.Equal(l, want) || e != api.OK {
			t.Errorf("Worlds(%d): %v, error %d", id, l, e)
		}
	}
}

// TestLimitVal: P18.1, a row of Val that has as many names as a table has atoms.
func TestLimitVal(t *testing.T) {
	var names []string
	for i := range 1200 {
		names = append(names, "a"+string(rune('a'+i/100))+string(rune('0'+i/10%10))+string(rune('0'+i%10)))
	}
	x := formula.New()
	for i := range api.MaxForms {
		if _, e := x.Atom(names[len(names)-1-i]); e != api.OK {
			t.Fatal(e)
		}
	}
	m := api.Model{Up: [][]int{{1}, {}}, Val: [][]string{nil, names}}
	for i, name := range names {
		if i%2 == 0 {
			m.Val[0] = append(m.Val[0], name)
		}
	}
	all, e := force.All(x, m, 1)
	if len(numbers(all)) != api.MaxForms || e != api.OK {
		t.Error(len(numbers(all)), e)
	}
	all, e = force.All(x, m, 0)
	if e != api.OK {
		t.Error(e)
	}
	for id := range api.MaxForms {
		if slices.Contains(numbers(all), id) != (id%2 == 1) {
			t.Fatalf("formula %d", id)
		}
	}
}
