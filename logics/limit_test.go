package logics_test

import (
	"slices"
	"strconv"
	"testing"

	"dictum/api"
	"dictum/formula"
	"dictum/logics"
)

// tree has so many worlds, the ones above each other as in a heap.
func tree(many int) api.Model {
	m := apart(many)
	for w := range many {
		for v := 2*w + 1; v <= 2*w+2 && v < many; v++ {
			m.Up[w] = append(m.Up[w], v)
		}
	}
	return m
}

// layers has so many rows of so many worlds, each below all of the next row.
func layers(high, wide int) api.Model {
	m := apart(high * wide)
	for w := range (high - 1) * wide {
		next := (w/wide + 1) * wide
		m.Up[w] = run(next, next+wide)
	}
	return m
}

// sets has the sets of so many things but the empty one, each below those that are in it.
func sets(things int) api.Model {
	m := apart(1<<things - 1)
	for w := range m.Up {
		for v := range w {
			if (v+1)&^(w+1) == 0 {
				m.Up[w] = append(m.Up[w], v)
			}
		}
	}
	return m
}

// TestLimitWorlds: P24.2, as many worlds as there may be, or nearly.
func TestLimitWorlds(t *testing.T) {
	spoilt := sets(7)
	spoilt.Up[2] = nil // the set of the first two things is an end, and joins them no more
	chance := newChance(11)
	for _, s := range []shape{
		{"512 apart", apart(512), "CL LC KC KP SM", 1},
		{"512 in a row", line(512), "LC KC KP", 512},
		{"256 rows of two", layers(2, 1), "LC KC KP SM", 2},
		{"511 below one", topped(apart(511)), "LC KC KP SM", 2},
		{"511 above one", rooted(apart(511)), "", 2},
		{"510 between two", rooted(topped(apart(510))), "KC KP", 3},
		{"a tree", tree(511), "", 9},
		{"a tree upside down", upsideDown(tree(511)), "LC KC KP", 9},
		{"a tree below one", topped(tree(511)), "KC KP", 10},
		{"eight rows of 64", layers(8, 64), "", 8},
		{"256 rows of two, each below both", layers(256, 2), "KP", 256},
		{"seven rows of two, above them one", topped(layers(7, 2)), "KC KP", 8},
		{"all sets of nine things", sets(9), "KP", 9},
		{"all sets of seven things, two not joined", spoilt, "", 7},
		{"seven in a row and eight", beside(line(7), line(8)), "LC KC KP", 8},
		{"a fork and 508", beside(apart(508), up(to(1, 2), nil, nil)), "KP", 2},
	} {
		heldShape(t, s, s.m)
		many := len(s.m.Up)
		heldShape(t, s, reordered(s.m, many, chance.Perm(many)))
		refusesFits(t, beside(s.m, apart(513-many)), api.LogicKP, 0, api.ErrModel)
	}
}

// TestLimitSpread: P24.2, orders by hand and by chance whose worlds have numbers anywhere, among others that are alone.
func TestLimitSpread(t *testing.T) {
	chance := newChance(12)
	for _, s := range shapes() {
		// a world that is alone keeps all rows of the table
		m := reordered(s.m, 512, chance.Perm(512)[:len(s.m.Up)])
		heldShape(t, s, m)
	}
	for range 200 {
		m := someFrame(chance, 9)
		above := plainAbove(m.Up)
		many := len(m.Up) + chance.IntN(130)
		n := reordered(m, many, chance.Perm(many)[:len(m.Up)])
		for _, l := range ordered() {
			want := plainFits(above, l)
			if is, e := logics.Fits(n, l.k, l.n); is != want || e != api.OK {
				t.Fatalf("Fits(%s, %v): %v, error %d, not %v", show(n), l, is, e, want)
			}
		}
	}
}

// TestLimitHeight: P24.2, orders of each height up to ten, in BD1 to BD8.
func TestLimitHeight(t *testing.T) {
	for h := 1; h <= 10; h++ {
		for _, m := range []api.Model{line(h), beside(apart(40), line(h)), layers(h, 3), tree(1<<h - 1)} {
			if len(m.Up) > 512 {
				continue
			}
			for n := 1; n <= 8; n++ {
				if is, e := logics.Fits(m, api.LogicBD, n); is != (h <= n) || e != api.OK {
					t.Errorf("Fits(%s, BD%d): %v, error %d", show(m), n, is, e)
				}
			}
		}
	}
}

// TestLimitRows: P24.2, rows that tell much more than they must.
func TestLimitRows(t *testing.T) {
	m := apart(128)
	for w := range m.Up {
		for range 90 {
			m.Up[w] = append(m.Up[w], run(w, 128)...)
		}
	}
	heldShape(t, shape{"128 in a row", m, "LC KC KP", 128}, m)
}

// deep are as many rows as a table may have, each of whose parts stands in more places than anybody could go through.
func deep(t *testing.T, seed uint64, names []string) *formula.Table {
	t.Helper()
	var rows []api.Node
	for _, name := range names {
		rows = append(rows, atom(name))
	}
	r := newChance(seed)
	for len(rows) < api.MaxForms {
		n := len(rows)
		row := join(api.KAnd+api.Kind(r.IntN(3)), n-1-r.IntN(min(n, 6)), n-1-r.IntN(min(n, 6)))
		if !slices.Contains(rows, row) {
			rows = append(rows, row)
		}
	}
	return made(t, rows...)
}

// allValues are the values of all rows.
func allValues(rows []api.Node, n int, by []api.Hyp) []int {
	var l []int
	for _, row := range rows {
		v := 0
		switch {
		case row.Kind == api.KAtom:
			v = by[slices.IndexFunc(by, func(h api.Hyp) bool { return h.Name == row.Name })].Form
		case row.Kind == api.KAnd:
			v = min(l[row.L], l[row.R])
		case row.Kind == api.KOr:
			v = max(l[row.L], l[row.R])
		case row.Kind == api.KImp && l[row.L] <= l[row.R]:
			v = n
		case row.Kind == api.KImp:
			v = l[row.R]
		}
		l = append(l, v)
	}
	return l
}

// TestLimitValue: P24.3, full tables.
func TestLimitValue(t *testing.T) {
	chance := newChance(13)
	for seed := range uint64(20) {
		x := deep(t, 100+seed, byBytes())
		n := 1 + chance.IntN(64)
		by := someBy(chance, n, byBytes())
		want := allValues(x.Rows(), n, by)
		for _, id := range to(1023, 1022, 700, 64, 5, 0, chance.IntN(1024)) {
			if v, e := logics.Value(x, id, n, by); v != want[id] || e != api.OK {
				t.Fatalf("%d: %d, error %d, not %d", id, v, e, want[id])
			}
		}
	}
}

// TestLimitDummett: P24.4, full tables of formulas of five atoms; where one is true, all 16807 rows of truth values are asked.
func TestLimitDummett(t *testing.T) {
	for seed := range uint64(4) {
		x := deep(t, 200+seed, byBytes())
		x.Cut(1023)
		id, _ := x.Imp(1022, 1022)
		if is, by, e := logics.Dummett(x, id); !is || len(by) != 0 || e != api.OK {
			t.Fatal(is, by, e)
		}
		for _, id := range to(1022, 1021, 1000, 500) {
			is, by, e := logics.Dummett(x, id)
			if e != api.OK {
				t.Fatal(e)
			}
			if !is && allValues(x.Rows(), 6, by)[id] == 6 {
				t.Fatalf("%d is true by %v", id, by)
			}
		}
	}
}

// TestLimitLast: P24.4, formulas of one to five atoms that are refuted by one row of truth values alone.
func TestLimitLast(t *testing.T) {
	names := []string{"a", "b", "c", "d", "e"}
	chance := newChance(14)
	for k := 1; k <= 5; k++ {
		for range 30 {
			// Atoms in some order fall from one below true down to 1: just these values make each of the parts less than true.
			order := chance.Perm(k)
			text := names[order[0]]
			by := make([]api.Hyp, k)
			for i, a := range order {
				by[a] = api.Hyp{Name: names[a], Form: k - i}
				if i > 0 {
					text += " | (" + names[order[i-1]] + " -> " + names[a] + ")"
				}
			}
			text += " | ~" + names[order[k-1]]
			x := formula.New()
			id := read(t, x, text)
			if is, got, e := logics.Dummett(x, id); is || !slices.Equal(got, by) || e != api.OK {
				t.Fatalf("Dummett(%s): %v, %v, error %d, not %v", text, is, got, e, by)
			}
		}
	}
}

// TestLimitNames: P24.3 and P24.5, as many names as one likes.
func TestLimitNames(t *testing.T) {
	var by []api.Hyp
	want := line(64)
	for i := range 3000 {
		name := "n" + strconv.Itoa(10000+i)
		by = append(by, api.Hyp{Name: name, Form: i % 65})
		for w := 64 - i%65; w < 64; w++ {
			want.Val[w] = append(want.Val[w], name)
		}
	}
	slices.Reverse(by)
	if m, e := logics.Model(64, by); !alike(m, want) || e != api.OK {
		t.Errorf("%d worlds, error %d", len(m.Up), e)
	}
	x := made(t, atom("n12998"))
	if v, e := logics.Value(x, 0, 64, by); v != 2998%65 || e != api.OK {
		t.Error(v, e)
	}
	refusesValue(t, x, 0, 64, append(slices.Clone(by), by[20]), api.ErrArg)
	refusesModel(t, 64, append(slices.Clone(by), by[2999]), api.ErrArg)
	refusesModel(t, 64, append(slices.Clone(by), api.Hyp{Name: "1"}), api.ErrAtom)
}

// TestLimitModel: P24.5, 64 worlds, with atoms that are true nowhere, in one, in all but one, everywhere.
func TestLimitModel(t *testing.T) {
	m, e := logics.Model(64, hyps("a 0 b 1 c 63 d 64"))
	want := line(64)
	for w := range 64 {
		want.Val[w] = []string{"c", "d"}
	}
	want.Val[0], want.Val[63] = []string{"d"}, []string{"b", "c", "d"}
	if !alike(m, want) || e != api.OK {
		t.Error(show(m), e)
	}
}

// TestLimitReduce: P24.6, formulas of many parts, of which there are up to half a million pairs, and how many fit.
func TestLimitReduce(t *testing.T) {
	for seed := range uint64(6) {
		x := deep(t, 300+seed, byBytes())
		for _, id := range to(1023, 800, 300, 100) {
			y := x.Copy()
			y.Cut(id + 1)
			refusesReduce(t, y, id, api.ErrForms)
			refusesReduce(t, x, id, api.ErrForms)
		}
	}
	most := 0
	for many := 1; many < 60; many++ {
		x := made(t, atom("p"))
		id := 0
		for x.Len() < many {
			id, _ = x.And(id, 0)
		}
		if _, ok := heldReduce(t, x, id); ok {
			most = many
		}
	}
	if most != 22 { // 231 pairs: two implications each, what joins these, and all but the first one joined again, and the whole
		t.Error(most)
	}
}
