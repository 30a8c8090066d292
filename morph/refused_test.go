package morph_test

import (
	"slices"
	"strings"
	"testing"

	"dictum/api"
	"dictum/morph"
)

// nothing asks for that error beside a model and a list that are empty.
func nothing(t *testing.T, call string, m api.Model, l []int, e, want api.Errno) {
	t.Helper()
	if !empty(m) || len(l) != 0 || e != want {
		t.Errorf("%s: %s, %v, error %d, not %d", call, show(m), l, e, want)
	}
}

// refusesWorld asks for that error of the calls that are handed a world.
func refusesWorld(t *testing.T, m api.Model, w int, want api.Errno) {
	t.Helper()
	untouched(t, []api.Model{m}, func() {
		part, l, e := morph.Above(m, w)
		nothing(t, "Above of "+show(m), part, l, e, want)
		tree, l, e := morph.Unravel(m, w)
		nothing(t, "Unravel of "+show(m), tree, l, e, want)
	})
}

// refusesGlue asks for that error of Glue.
func refusesGlue(t *testing.T, l []api.Model, atoms []string, want api.Errno) {
	t.Helper()
	untouched(t, l, func() {
		whole, places, e := morph.Glue(l, atoms)
		nothing(t, "Glue of "+shown(l)+" with "+strings.Join(atoms, ","), whole, places, e, want)
	})
}

// refusesMap asks for that error of Bounded.
func refusesMap(t *testing.T, m, n api.Model, f []int, want api.Errno) {
	t.Helper()
	kept := slices.Clone(f)
	untouched(t, []api.Model{m, n}, func() {
		if is, e := morph.Bounded(m, n, f); is || e != want {
			t.Errorf("Bounded(%s, %s, %v): %v, error %d, not %d", show(m), show(n), f, is, e, want)
		}
	})
	if !slices.Equal(kept, f) {
		t.Errorf("the map became %v, and was %v", f, kept)
	}
}

// TestRefusedModel: ErrModel comes first, whatever else is wrong.
func TestRefusedModel(t *testing.T) {
	for _, m := range noModels() {
		for _, w := range append(noWorlds(len(m.Up)), 0, 1) {
			refusesWorld(t, m, w, api.ErrModel)
		}
		untouched(t, []api.Model{m}, func() {
			if class, e := morph.Classes(m); len(class) != 0 || e != api.ErrModel {
				t.Errorf("Classes(%s): %v, error %d", show(m), class, e)
			}
			whole, class, e := morph.Quotient(m)
			nothing(t, "Quotient of "+show(m), whole, class, e, api.ErrModel)
		})
	}
}

// TestRefusedGlueModel: P19.2, ErrModel of one model at any place, whatever is wrong with the others, the atoms, and how many worlds there are.
func TestRefusedGlueModel(t *testing.T) {
	for _, m := range noModels() {
		for _, atoms := range [][]string{nil, names("p"), names("q,p"), names("false"), {""}} {
			for _, l := range [][]api.Model{
				{m}, {m, m}, {m, single("p")}, {single("p"), m}, {apart(2), m}, {m, apart(2)}, {chain(512), m}, {chain(300), chain(300), m, single("")}, {apart(512), apart(512), m},
			} {
				refusesGlue(t, l, atoms, api.ErrModel)
			}
		}
	}
}

// TestRefusedBoundedModel: P19.3, ErrModel of either model, whatever the map is.
func TestRefusedBoundedModel(t *testing.T) {
	for _, m := range noModels() {
		for _, f := range [][]int{nil, to(0), to(0, 0), to(0, 0, 0), to(-1), to(0, 1, 2, 3, 4)} {
			refusesMap(t, m, single("p"), f, api.ErrModel)
			refusesMap(t, single("p"), m, f, api.ErrModel)
			refusesMap(t, diamond(), m, f, api.ErrModel)
			refusesMap(t, m, diamond(), f, api.ErrModel)
			refusesMap(t, m, m, f, api.ErrModel)
		}
		refusesMap(t, m, single(""), make([]int, len(m.Up)), api.ErrModel)
	}
}

// TestRefusedWorld: P19.1 and P19.5, ErrArg of what is no world, of Unravel ahead of ErrMorph.
func TestRefusedWorld(t *testing.T) {
	for _, m := range []api.Model{single(""), diamond(), apart(5), chain(65), chain(api.MaxWorlds), doubling(256), doubling(12)} {
		for _, w := range noWorlds(len(m.Up)) {
			refusesWorld(t, m, w, api.ErrArg)
		}
		if _, l, e := morph.Above(m, len(m.Up)-1); !slices.Equal(l, to(len(m.Up)-1)) || e != api.OK {
			t.Error(l, e)
		}
		if _, l, e := morph.Unravel(m, len(m.Up)-1); !slices.Equal(l, to(len(m.Up)-1)) || e != api.OK {
			t.Error(l, e)
		}
	}
}

// TestRefusedRoots: P19.2, ErrMorph of a model without a root, at any place.
func TestRefusedRoots(t *testing.T) {
	for _, m := range []api.Model{apart(2), apart(3), up(to(2), to(2), nil), up(nil, to(0), to(0)), up(to(1), nil, nil), up(to(1), nil, to(3), nil), turned(ladder(7)), apart(511)} {
		for _, l := range [][]api.Model{{m}, {m, single("")}, {single(""), m}, {diamond(), m, diamond()}, {m, m}} {
			refusesGlue(t, l, nil, api.ErrMorph)
		}
	}
}

// TestGlueRoots: P19.2, the root may be any world: its number stands in the new world's row.
func TestGlueRoots(t *testing.T) {
	l := []api.Model{turned(chain(3)), up(to(2), to(0), nil), single("p"), up(to(1, 1, 0), to(1))}
	whole, places, e := morph.Glue(l, nil)
	want := with(up(to(3, 5, 7, 8), nil, to(1), to(2), to(6), to(4), nil, nil, to(9), nil), "", "", "", "", "", "", "", "p", "", "")
	if !alike(whole, want) || !slices.Equal(places, to(1, 4, 7, 8)) || e != api.OK {
		t.Error(show(whole), places, e)
	}
}

// TestRefusedAtoms: P19.2, ErrMorph of atoms that are no names, or do not rise strictly by bytes, with models in whose roots all names are true, and with none.
func TestRefusedAtoms(t *testing.T) {
	long := strings.Repeat("a", 31)
	all := "A,P,Z,a,a1,a10," + long + ",b,p,p',p1,p_,pp,q,z"
	for _, l := range [][]api.Model{nil, {}, {single(all)}, {single(all), with(chain(3), all, all, all)}} {
		for _, atoms := range []string{"", "p", "p,q", "P,p", "Z,a", "a1,a10", "p,p'", "p',p1", "p1,p_", "p_,pp", "a1,a10," + long, all} {
			if !heldGlued(t, l, names(atoms)) {
				t.Errorf("%s are refused", atoms)
			}
		}
		for _, atoms := range []string{"q,p", "p,p", "p,P", "p,q,q", "p,q,p", "a,Z", "a10,a1", "b,a,p", "a,p,b", "false", "true", "p,true", "fun", "1", "0p", "p-q", "p q", "é", "_", "p,z,~", long + "a", "'p", "abort"} {
			if heldGlued(t, l, names(atoms)) {
				t.Errorf("%s are taken", atoms)
			}
		}
		for _, atoms := range [][]string{{""}, {"", "p"}, {"p", ""}, {" "}, {"p,q"}, {"p\n"}, {"p\x00"}, {"\xff"}, {"p", "p\xff"}, {strings.Repeat("a", 70000)}} {
			refusesGlue(t, l, atoms, api.ErrMorph)
		}
	}
}

// TestRefusedRootAtoms: P19.2, ErrMorph unless each atom is true in every root, wherever else it is true.
func TestRefusedRootAtoms(t *testing.T) {
	for _, l := range [][]api.Model{
		{single("")}, {single("q")}, {single("P")}, {single("p'")}, {single("p"), single("")}, {single(""), single("p")}, {single("p"), single("p,q"), single("q")},
		{with(chain(2), "", "p")}, {with(turned(chain(2)), "p", "")}, {single("p"), with(chain(3), "q", "p,q", "p,q")}, {diamond()},
	} {
		refusesGlue(t, l, names("p"), api.ErrMorph)
	}
	for _, l := range [][]api.Model{{single("p")}, {single("p"), single("p,q")}, {with(chain(2), "p", "p")}, {with(turned(chain(2)), "p,q", "p")}, {single("P,p,p'")}} {
		if !heldGlued(t, l, names("p")) {
			t.Errorf("p is refused of %s", shown(l))
		}
	}
	refusesGlue(t, []api.Model{single("p,q"), single("p")}, names("p,q"), api.ErrMorph)
	refusesGlue(t, []api.Model{single("p"), single("q")}, names("p,q"), api.ErrMorph)
}

// TestGlueNothing: P19.2, no models make one world, with the atoms.
func TestGlueNothing(t *testing.T) {
	for _, atoms := range []string{"", "p", "P,p,q"} {
		whole, places, e := morph.Glue(nil, names(atoms))
		if !alike(whole, single(atoms)) || len(places) != 0 || e != api.OK {
			t.Error(show(whole), places, e)
		}
	}
}

// TestRefusedMap: P19.3, ErrMorph of a map that has too few or too many numbers, or one that is no world of the other model, at any place.
func TestRefusedMap(t *testing.T) {
	m, n := diamond(), with(chain(3), "", "p", "p,q")
	good := to(0, 1, 1, 2)
	for _, f := range [][]int{nil, {}, to(0), good[:3], append(slices.Clone(good), 2), append(slices.Clone(good), 0, 1), make([]int, 512)} {
		refusesMap(t, m, n, f, api.ErrMorph)
	}
	for _, bad := range noWorlds(len(n.Up)) {
		for at := range good {
			f := slices.Clone(good)
			f[at] = bad
			refusesMap(t, m, n, f, api.ErrMorph)
		}
		refusesMap(t, single(""), n, to(bad), api.ErrMorph)
	}
	if is, e := morph.Bounded(m, n, good); !is || e != api.OK {
		t.Error(is, e)
	}
	refusesMap(t, n, m, to(0, 1, 4), api.ErrMorph)
	if is, e := morph.Bounded(n, m, to(0, 1, 3)); is || e != api.OK { // nothing goes to 2
		t.Error(is, e)
	}
}

// TestMapRoom: R7, what a map has behind its end is nobody's.
func TestMapRoom(t *testing.T) {
	room := to(0, 1, 1, 2, 9, -5)
	n := with(chain(3), "", "p", "p,q")
	if is, e := morph.Bounded(diamond(), n, room[:4]); !is || e != api.OK {
		t.Error(is, e)
	}
	refusesMap(t, diamond(), n, room[:3], api.ErrMorph)
	refusesMap(t, diamond(), n, room[:5], api.ErrMorph)
}

// TestBoundedNot: P19.3, maps that are none for one reason alone.
func TestBoundedNot(t *testing.T) {
	two, fork := chain(2), fan(3)
	for why, c := range map[string]struct {
		m, n api.Model
		f    []int
	}{
		"another atom is true":         {single("p"), single("q"), to(0)},
		"an atom fewer is true":        {single(""), single("p"), to(0)},
		"an atom more is true":         {single("p,q"), single("p"), to(0)},
		"what is above goes below":     {two, two, to(1, 0)},
		"what is above goes elsewhere": {two, apart(2), to(0, 1)},
		"nothing goes to the top":      {single(""), two, to(0)},
		"one of two is not met":        {two, fork, to(0, 1)},
		"one branch does not meet all": {up(to(1, 2), to(3), nil, nil), chain(3), to(0, 1, 1, 2)},
	} {
		if heldBounded(t, c.m, c.n, c.f) {
			t.Error(why)
		}
	}
	for _, c := range []struct {
		m, n api.Model
		f    []int
	}{{two, two, to(0, 1)}, {two, two, to(1, 1)}, {fork, two, to(0, 1, 1)}, {two, single(""), to(0, 0)}, {single(""), two, to(1)}, {apart(2), two, to(1, 1)}, {up(to(1, 2), to(2), nil), two, to(0, 1, 1)}} {
		if !heldBounded(t, c.m, c.n, c.f) {
			t.Errorf("%v is none from %s to %s", c.f, show(c.m), show(c.n))
		}
	}
}
