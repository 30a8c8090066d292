package reduce_test

import (
	"slices"
	"testing"

	"dictum/api"
	"dictum/reduce"
	"dictum/term"
)

// many is a term in which x stands so often, of two nodes a place less one.
func many(places int, name string) api.Term {
	return balanced(slices.Repeat([]api.Term{v(name)}, places))
}

// grown asks for ErrLarge of a Do just if the whole term would have more nodes than may be.
func grown(t *testing.T, x api.Term, way []int, size int) {
	t.Helper()
	f := rowTable(t)
	got, e := reduce.Do(f, x, way)
	switch {
	case size > api.MaxTerm && (e != api.ErrLarge || !zero(got)):
		t.Errorf("Do(%s, %v): %d nodes, error %d, not ErrLarge", show(x), way, term.Size(got), e)
	case size <= api.MaxTerm && (e != api.OK || term.Size(got) != size):
		t.Errorf("Do(%s, %v): %d nodes, error %d, not %d", show(x), way, term.Size(got), e, size)
	}
	_, done, normal, e := reduce.Run(f, x, 1)
	if size > api.MaxTerm && (done != 0 || normal || e != api.ErrLarge) || size <= api.MaxTerm && (done != 1 || e != api.OK) {
		t.Errorf("Run(%s, 1): %d times, %v, error %d; %d nodes", show(x), done, normal, e, size)
	}
}

// TestNodes: P14.2, just MaxTerm nodes of the whole term, and more, by each row that puts a term in many places.
func TestNodes(t *testing.T) {
	for _, size := range []int{65000, 65535, 65536, 65537, 65538, 66000, 131071} {
		for _, beside := range []int{0, 1} { // how many formulas stand beside what is put in, and beside all
			places := 256
			inner := (size-beside-(2*places-1))/places + 1 - beside
			b := sized(inner, "y")
			rest := size - beside - (2*places - 1) - places*(inner+beside-1) // so many nodes are still missing
			body := pair(many(places, "x"), sized(max(rest-1, 1), "z"))
			if rest < 2 {
				continue
			}
			if beside == 0 {
				grown(t, app(lam("x", body), b), nil, size)
				grown(t, choose(inl(b), "x", body, "y", v("y")), nil, size)
				grown(t, choose(inr(b), "y", v("y"), "x", body), nil, size)
				grown(t, let("x", b, body), nil, size)
				continue
			}
			grown(t, app(the(lam("x", body), 2), b), nil, size)
			grown(t, choose(the(inl(b), 4), "x", body, "y", v("y")), nil, size-1)
			grown(t, choose(the(inr(b), 4), "y", v("y"), "x", body), nil, size-1)
		}
	}
}

// TestNodesElsewhere: P14.2, the nodes of the whole term count, not those of the part alone.
func TestNodesElsewhere(t *testing.T) {
	b := sized(101, "y")
	part := let("x", b, many(50, "x")) // 201 nodes, which become 5099
	for _, rest := range []int{60000, 60435, 60436, 60437, 65000} {
		x := pair(part, sized(rest, "z"))
		grown(t, x, []int{0}, 5099+1+rest)
		x = pair(sized(rest-1, "z"), lam("x", part))
		grown(t, x, []int{1, 0}, 5099+1+rest)
	}
	f := rowTable(t)
	whole := pair(the(v("x"), 0), sized(api.MaxTerm-3, "z"))
	does(t, f, whole, []int{0}, pair(v("x"), sized(api.MaxTerm-3, "z")))
}

// TestNodesTold: P14.2, a term so large that nobody could make it is told, too; what Do refuses is still told by Redexes.
func TestNodesTold(t *testing.T) {
	f := rowTable(t)
	x := app(lam("x", many(10000, "x")), sized(40001, "y")) // 400 million nodes
	finds(t, f, x, nil)
	undone(t, f, x, nil, api.ErrLarge)
	undone(t, f, x, []int{0}, api.ErrRedex)
	undone(t, f, x, []int{2}, api.ErrRedex)
	runs(t, f, x, 1, x, 0, false, api.ErrLarge)
	runs(t, f, x, 0, x, 0, false, api.OK)
}

// deepened asks for ErrLarge of a Do just if the whole term would have more levels than may be.
func deepened(t *testing.T, x api.Term, way []int, deep int) {
	t.Helper()
	f := rowTable(t)
	if e := term.Check(x); e != api.OK {
		t.Fatalf("%d levels, error %d", term.Deep(x), e)
	}
	got, e := reduce.Do(f, x, way)
	switch {
	case deep > api.MaxDeep && (e != api.ErrLarge || !zero(got)):
		t.Errorf("Do(%s, %v): %d levels, error %d, not ErrLarge", show(x), way, term.Deep(got), e)
	case deep <= api.MaxDeep && (e != api.OK || term.Deep(got) != deep):
		t.Errorf("Do(%s, %v): %d levels, error %d, not %d", show(x), way, term.Deep(got), e, deep)
	}
	_, done, normal, e := reduce.Run(f, x, 1)
	if deep > api.MaxDeep && (done != 0 || normal || e != api.ErrLarge) || deep <= api.MaxDeep && (done != 1 || e != api.OK) {
		t.Errorf("Run(%s, 1): %d times, %v, error %d; %d levels", show(x), done, normal, e, deep)
	}
}

// inside is a term under so many functions, and the way there.
func inside(above int, x api.Term) (api.Term, []int) {
	for range above {
		x = lam("n", x)
	}
	return x, make([]int, above)
}

// TestLevels: P14.2, just MaxDeep levels of the whole term, and one more, by each row that puts a term somewhere.
func TestLevels(t *testing.T) {
	body := tall(500, v("x"))
	for _, above := range []int{0, 1, 100} {
		for levels := 1020; levels < 1030; levels++ {
			b := tall(levels-above-499, v("y")) // with the body above it, and the functions, so many levels
			for _, part := range []api.Term{app(lam("x", body), b), choose(inl(b), "x", body, "y", v("y")), choose(inr(b), "y", v("y"), "x", body), let("x", b, body)} {
				x, way := inside(above, part)
				deepened(t, x, way, levels)
			}
			for _, part := range []api.Term{choose(the(inl(b), 4), "x", body, "y", v("y")), choose(the(inr(b), 4), "y", v("y"), "x", body)} {
				x, way := inside(above, part)
				deepened(t, x, way, levels+1)
			}
			x, way := inside(above, app(the(lam("x", body), 2), b))
			deepened(t, x, way, levels+2)
		}
	}
}

// TestLevelsElsewhere: levels of other parts do not count for the part, and what needs none is not refused at MaxDeep.
func TestLevelsElsewhere(t *testing.T) {
	deep := tall(api.MaxDeep-1, v("z"))
	deepened(t, pair(let("x", tall(500, v("y")), tall(523, v("x"))), deep), []int{0}, 1024)
	deepened(t, pair(let("x", tall(500, v("y")), tall(524, v("x"))), deep), []int{0}, 1024)
	deepened(t, pair(let("x", tall(500, v("y")), tall(525, v("x"))), deep), []int{0}, 1025)
	deepened(t, the(deep, 0), nil, 1023)
	deepened(t, let("x", v("y"), deep), nil, 1023)
	deepened(t, app(the(lam("x", tall(api.MaxDeep-3, v("z"))), 2), v("y")), nil, 1022)
	deepened(t, app(the(lam("x", tall(api.MaxDeep-3, v("x"))), 2), v("y")), nil, 1023)
	deepened(t, app(lam("x", v("x")), deep), nil, 1023)
	deepened(t, app(the(lam("x", v("x")), 2), deep), nil, 1025)
	x, way := inside(api.MaxDeep-2, the(v("x"), 0))
	deepened(t, x, way, 1023)
	x, way = inside(api.MaxDeep-4, fst(the(pair(v("a"), v("b")), 3)))
	deepened(t, x, way, 1022)
}

// TestMaxWays: P14.2, the first 1000 ways, and no more.
func TestMaxWays(t *testing.T) {
	f := rowTable(t)
	for _, count := range []int{999, 1000, 1001, 1500, 4000} {
		x := balanced(slices.Repeat([]api.Term{the(v("x"), 0)}, count))
		want := reader{f.Rows()}.ways(x)
		if len(want) != count {
			t.Fatalf("%d ways", len(want))
		}
		finds(t, f, x, want[:min(count, 1000)]...)
		does(t, f, x, want[count-1], reader{f.Rows()}.do(x, want[count-1]).x)
	}
	chain := v("x")
	for range api.MaxDeep - 1 {
		chain = the(chain, 0)
	}
	want := make([][]int, 1000)
	for i := range want {
		want[i] = make([]int, i)
	}
	finds(t, f, chain, want...)
	runs(t, f, chain, api.MaxFuel, v("x"), api.MaxDeep-1, true, api.OK)
}

// TestMaxFuel: P14.3, just MaxFuel times, and whether the term is normal then.
func TestMaxFuel(t *testing.T) {
	f := rowTable(t)
	self := lam("x", app(v("x"), v("x")))
	x := app(self, self)
	runs(t, f, x, api.MaxFuel, clone(x), api.MaxFuel, false, api.OK)
	runs(t, f, x, api.MaxFuel-1, clone(x), api.MaxFuel-1, false, api.OK)
	for count := api.MaxFuel - 1; count <= api.MaxFuel+1; count++ {
		l := slices.Repeat([]api.Term{app(lam("x", v("x")), v("y"))}, count)
		done := slices.Repeat([]api.Term{v("y")}, min(count, api.MaxFuel))
		if count > api.MaxFuel {
			done = append(done, l[api.MaxFuel:]...)
		}
		runs(t, f, balanced(l), api.MaxFuel, balanced(done), min(count, api.MaxFuel), count <= api.MaxFuel, api.OK)
	}
}

// TestRunLarge: P14.3, a run that comes to what is too large answers the term ahead of that, and how often.
func TestRunLarge(t *testing.T) {
	f := rowTable(t)
	thrice := lam("x", app(app(v("x"), v("x")), v("x")))
	x := app(thrice, thrice) // one level more each time
	want, times := clone(x), 0
	for term.Deep(want)+1 <= api.MaxDeep {
		want = app(want, clone(thrice))
		times++
	}
	runs(t, f, x, api.MaxFuel, want, times, false, api.ErrLarge)
	runs(t, f, x, times+1, want, times, false, api.ErrLarge)
	runs(t, f, x, times, want, times, false, api.OK)
	runs(t, f, pair(the(v("a"), 0), x), api.MaxFuel, pair(v("a"), want.Sub[0]), times, false, api.ErrLarge) // the pair has a level of its own
}

// doubling is a term that becomes twice as large with each of so many lets.
func doubling(times int) api.Term {
	x := v("x" + string(rune('a'+times)))
	for i := times; i > 0; i-- {
		name := "x" + string(rune('a'+i-1))
		x = let("x"+string(rune('a'+i)), pair(v(name), v(name)), x)
	}
	return x
}

// TestRunDoubling: P14.3, just MaxTerm nodes by a run, and more.
func TestRunDoubling(t *testing.T) {
	f := rowTable(t)
	for rest := 32765; rest < 32769; rest++ {
		x := pair(doubling(14), sized(rest, "z")) // ahead of the last let it has 32769 nodes more than the rest has, and one for the pair
		want, n, normal, code := reader{f.Rows()}.run(x, 99)
		if (code == api.OK) != (rest <= 32766) || normal != (code == api.OK) {
			t.Fatal(rest, n, code)
		}
		runs(t, f, x, 99, want, n, normal, code)
		runs(t, f, x, n, want, n, normal, api.OK)
	}
	for _, times := range []int{15, 16, 24} {
		x := doubling(times)
		want, n, _, code := reader{f.Rows()}.run(x, 99)
		if code != api.ErrLarge {
			t.Fatal(code)
		}
		runs(t, f, x, 99, want, n, false, api.ErrLarge)
	}
}
