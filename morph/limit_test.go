package morph_test

import (
	"slices"
	"strconv"
	"testing"

	"dictum/api"
	"dictum/morph"
	"dictum/worlds"
)

const most = api.MaxWorlds

// singles are so many models of one world.
func singles(many int) []api.Model {
	var l []api.Model
	for range many {
		l = append(l, single("p"))
	}
	return l
}

// TestLimitAbove: P19.1, a chain of as many worlds as a model may have, in both directions.
func TestLimitAbove(t *testing.T) {
	m := from(chain(most), 300, "p")
	for _, w := range []int{0, 1, 63, 64, 299, 300, 510, 511} {
		want := from(chain(most-w), max(300-w, 0), "p")
		if part, l, e := morph.Above(m, w); !alike(part, want) || !slices.Equal(l, run(w, most)) || e != api.OK {
			t.Errorf("Above(%d): %s, %d worlds, error %d", w, show(part), len(l), e)
		}
		if part, l, e := morph.Above(turned(m), most-1-w); !alike(part, turned(want)) || !slices.Equal(l, run(0, most-w)) || e != api.OK {
			t.Errorf("Above(%d): %s, %d worlds, error %d", most-1-w, show(part), len(l), e)
		}
	}
}

// TestLimitGlue: P19.2, 512 worlds with the new one, and one more, however they are spread over the models.
func TestLimitGlue(t *testing.T) {
	for _, l := range [][]api.Model{
		{chain(511)}, {turned(chain(511))}, {fan(511)}, {chain(255), chain(256)}, {fan(510), single("")}, {single(""), fan(510)}, {chain(170), fan(170), turned(chain(171))}, append(singles(510), single("")), singles(511),
	} {
		whole, places, e := morph.Glue(l, nil)
		if len(whole.Up) != most || len(whole.Val) != most || len(places) != len(l) || worlds.Check(whole) != api.OK || e != api.OK {
			t.Errorf("%s: %s, error %d", shown(l), show(whole), e)
		}
		place := 1
		for i, m := range l {
			if places[i] != place {
				t.Fatalf("model %d begins at %d, not at %d", i, places[i], place)
			}
			place += len(m.Up)
		}
		for i := range l {
			more := slices.Insert(slices.Clone(l), i, single("p"))
			refusesGlue(t, more, nil, api.ErrMorph)
			if i == 3 {
				break
			}
		}
	}
	for _, l := range [][]api.Model{{chain(512)}, {fan(512)}, {chain(256), chain(256)}, singles(512), singles(513), {chain(512), chain(512)}, singles(100000), {single(""), chain(511)}} {
		refusesGlue(t, l, nil, api.ErrMorph)
	}
	l := singles(511)
	if whole, _, e := morph.Glue(l, names("p")); !alike(whole, from(fan(512), 0, "p")) || e != api.OK {
		t.Error(show(whole), e)
	}
	refusesGlue(t, append(l, single("p")), names("p"), api.ErrMorph)
}

// TestLimitUnravel: P19.5, trees of 512 worlds and of 513, and ways that nobody could go to the end.
func TestLimitUnravel(t *testing.T) {
	for _, m := range []api.Model{chain(512), fan(512), from(chain(512), 100, "p")} {
		tree, ends, e := morph.Unravel(m, 0)
		if !alike(tree, m) || !slices.Equal(ends, run(0, 512)) || e != api.OK {
			t.Errorf("%s: %s, error %d", show(m), show(tree), e)
		}
	}
	// 1 + 2 + .. + 256 ways make 511 worlds, and each world beside them that stands above the root makes one more
	for beside := range 5 {
		m := doubling(9)
		for range beside {
			m.Up[0] = append(m.Up[0], len(m.Up))
			m.Up = append(m.Up, nil)
			m.Val = append(m.Val, nil)
		}
		if ok := heldTree(t, m, 0); ok != (beside <= 1) {
			t.Errorf("%d worlds beside: %v", beside, ok)
		}
		if !heldTree(t, m, 1) || !heldTree(t, m, 2) {
			t.Error("a tree is refused")
		}
	}
	m := doubling(256)
	for _, w := range append(to(0, 1, 255, 256, 400), run(480, 512)...) {
		tree, ends, e := morph.Unravel(m, w)
		if fits := w >= 2*(256-9); fits != (e == api.OK) || !fits && (e != api.ErrMorph || !empty(tree) || len(ends) != 0) {
			t.Fatalf("Unravel(%d): %s, error %d", w, show(tree), e)
		}
	}
	last := doubling(9)
	last.Up[15] = append(last.Up[15], 18) // 128 ways end at 14 and 15 each; one world more above 15 is as many more
	last.Up, last.Val = append(last.Up, nil), append(last.Val, nil)
	if heldTree(t, last, 0) || !heldTree(t, last, 2) {
		t.Error("a tree of 575 worlds is told")
	}
}

// TestLimitUnravelTidy: P19.5, ways go by Tidy's rows: however often a row says what follows, a chain is a chain.
func TestLimitUnravelTidy(t *testing.T) {
	m := apart(512)
	for w := range m.Up {
		m.Up[w] = append(run(w, 512), run(w, 512)...)
		slices.Reverse(m.Up[w])
	}
	if tree, ends, e := morph.Unravel(m, 0); !alike(tree, chain(512)) || !slices.Equal(ends, run(0, 512)) || e != api.OK {
		t.Error(show(tree), e)
	}
	if part, l, e := morph.Above(m, 12); !alike(part, chain(500)) || !slices.Equal(l, run(12, 512)) || e != api.OK {
		t.Error(show(part), e)
	}
	if whole, _, e := morph.Glue([]api.Model{{Up: [][]int{{1, 2, 3, 0}, {3, 2, 1}, {3, 2}, {3}}, Val: make([][]string, 4)}}, nil); !alike(whole, chain(5)) || e != api.OK {
		t.Error(show(whole), e)
	}
	if class, e := morph.Classes(m); !slices.Equal(class, make([]int, 512)) || e != api.OK {
		t.Error(class, e)
	}
	if whole, _, e := morph.Quotient(m); !alike(whole, single("")) || e != api.OK {
		t.Error(show(whole), e)
	}
}

// TestLimitBounded: P19.3, maps of 512 worlds.
func TestLimitBounded(t *testing.T) {
	is := func(m, n api.Model, f []int, want bool) {
		t.Helper()
		if got, e := morph.Bounded(m, n, f); got != want || e != api.OK {
			t.Errorf("%s, %s: %v, error %d", show(m), show(n), got, e)
		}
	}
	all := run(0, 512)
	other := func(at, to int) []int {
		f := slices.Clone(all)
		f[at] = to
		return f
	}
	is(chain(512), chain(512), all, true)
	is(turned(chain(512)), turned(chain(512)), all, true)
	is(chain(512), turned(chain(512)), all, false)
	is(chain(512), single(""), make([]int, 512), true)
	is(apart(512), single(""), make([]int, 512), true)
	is(apart(512), apart(512), other(511, 0), true)
	is(chain(512), chain(512), other(511, 510), false)
	is(chain(512), chain(512), other(0, 1), true)
	is(chain(512), chain(512), other(64, 63), false)
	is(from(chain(512), 511, "p"), chain(512), all, false)
	is(from(chain(512), 64, "p"), from(chain(512), 64, "p"), all, true)
	is(from(chain(512), 64, "p"), from(chain(512), 65, "p"), all, false)
	is(single(""), chain(512), to(511), true)
	is(single(""), chain(512), to(510), false)
	is(fan(512), chain(2), append(to(0), slices.Repeat(to(1), 511)...), true)
	refusesMap(t, chain(512), chain(512), other(511, 512), api.ErrMorph)
	refusesMap(t, chain(512), chain(512), append(all, 0), api.ErrMorph)
	refusesMap(t, chain(512), chain(512), all[:511], api.ErrMorph)
}

// TestLimitClasses: P19.4, 512 worlds in one class, in two, and in as many as there are, however late that shows.
func TestLimitClasses(t *testing.T) {
	classes := func(m api.Model, want []int) {
		t.Helper()
		whole, class, e := morph.Quotient(m)
		if len(whole.Up) != slices.Max(want)+1 || !slices.Equal(class, want) || e != api.OK {
			t.Errorf("%s: %s, %v, error %d", show(m), show(whole), class, e)
		}
		if class, e := morph.Classes(m); !slices.Equal(class, want) || e != api.OK {
			t.Errorf("%s: %v, error %d", show(m), class, e)
		}
	}
	all := run(0, 512)
	halves := append(make([]int, 300), slices.Repeat(to(1), 212)...)
	classes(chain(512), make([]int, 512))
	classes(apart(512), make([]int, 512))
	classes(fan(512), make([]int, 512))
	classes(doubling(256), make([]int, 512))
	classes(from(chain(512), 300, "p"), halves)
	classes(from(apart(512), 300, "p"), halves)
	classes(ladder(512), all)
	classes(turned(ladder(512)), all)
	many := chain(512)
	for w := range many.Val {
		for i := range w {
			many.Val[w] = append(many.Val[w], "a"+strconv.Itoa(1000+i))
		}
	}
	classes(many, all)
	classes(turned(many), all)
	two := turned(ladder(256)) // and the same once more behind it
	for w, row := range ladder(256).Up {
		var moved []int
		for _, v := range row {
			moved = append(moved, 256+v)
		}
		two.Up, two.Val = append(two.Up, moved), append(two.Val, ladder(256).Val[w])
	}
	want := run(0, 256)
	slices.Reverse(want)
	classes(two, append(run(0, 256), want...))
}
