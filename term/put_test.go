package term_test

import (
	"slices"
	"strconv"
	"testing"

	"dictum/api"
	"dictum/term"
)

// putText asks for Put of texts.
func putText(t *testing.T, x, name, y, want string) {
	t.Helper()
	puts(t, read(t, x), name, read(t, y), read(t, want))
}

// TestPut: P12.4, each place where the name is free, and no other.
func TestPut(t *testing.T) {
	for _, c := range [][4]string{
		{"a", "a", "b c", "b c"},
		{"b", "a", "c", "b"},
		{"a", "a", "a", "a"},
		{"a a", "a", "a a", "(a a) (a a)"},
		{"(a, (fst a, snd a))", "a", "x", "(x, (fst x, snd x))"},
		{"(inl a, (inr a, abort a))", "a", "x y", "(inl (x y), (inr (x y), abort (x y)))"},
		{"fun b => a", "a", "c", "fun b => c"},
		{"fun a => a", "a", "c", "fun a => a"},
		{"(fun a => a) a", "a", "c", "(fun a => a) c"},
		{"fun b => fun a => a b", "a", "b", "fun b => fun a => a b"},
		{"let a = a in a", "a", "c", "let a = c in a"},
		{"let b = a in a", "a", "c", "let b = c in c"},
		{"let b = a in b", "a", "b", "let b = b in b"},
		{"case a of a => a | a => a", "a", "c", "case c of a => a | a => a"},
		{"case a of a => a | b => a", "a", "c", "case c of a => a | b => c"},
		{"case a of b => a | a => a", "a", "c", "case c of b => c | a => a"},
		{"case a of b => b | d => d", "a", "b d", "case b d of b => b | d => d"},
	} {
		putText(t, c[0], c[1], c[2], c[3])
	}
	puts(t, the(v("a"), 3), "a", the(v("b"), 4), the(the(v("b"), 4), 3))
	puts(t, the(v("b"), 3), "a", the(v("b"), 4), the(v("b"), 3))
	for _, x := range holders(v("a")) {
		puts(t, x, "a", v("z"), plainPut(x, "a", v("z")))
	}
}

// TestPutRenames: P12.4, which bindings are renamed, and to what.
func TestPutRenames(t *testing.T) {
	for _, c := range [][4]string{
		{"fun b => a b", "a", "b", "fun v0 => b v0"},
		{"fun b => a", "a", "b", "fun v0 => b"},
		{"fun b => b", "a", "b", "fun b => b"},
		{"fun b => a b", "a", "fun b => b", "fun b => (fun b => b) b"},
		{"fun b => a b", "a", "fun c => b c", "fun v0 => (fun c => b c) v0"},
		{"fun b => a b v0", "a", "b", "fun v1 => b v1 v0"},
		{"fun b => a b v1", "a", "b", "fun v0 => b v0 v1"},
		{"fun b => a b", "a", "b v0 v1", "fun v2 => b v0 v1 v2"},
		{"fun b => a b v1", "a", "b v0 v2", "fun v3 => b v0 v2 v3 v1"},
		{"fun b => a b v1", "a", "b v0 v3", "fun v2 => b v0 v3 v2 v1"},
		{"fun b => v0 b", "v0", "b", "fun v1 => b v1"},
		{"fun v0 => v1 v0", "v1", "v0", "fun v2 => v0 v2"},
		{"fun v0 => a v0", "a", "v0", "fun v1 => v0 v1"},
		{"fun b => a b (fun v0 => v0)", "a", "b", "fun v0 => b v0 (fun v0 => v0)"},
		{"fun b => a (fun v0 => b v0)", "a", "b", "fun v0 => b (fun v1 => v0 v1)"},
		{"fun b => a (fun v0 => b v0 v1)", "a", "b", "fun v0 => b (fun v2 => v0 v2 v1)"},
		{"fun b => a (fun v0 => fun v1 => b v0 v1)", "a", "b", "fun v0 => b (fun v1 => fun v2 => v0 v1 v2)"},
		{"fun b => a (fun v0 => fun v1 => b v0)", "a", "b", "fun v0 => b (fun v1 => fun v2 => v0 v1)"},
		{"fun b => a (fun v0 => fun v1 => b v1)", "a", "b", "fun v0 => b (fun v1 => fun v1 => v0 v1)"},
		{"fun b => a (fun v0 => v0)", "a", "b", "fun v0 => b (fun v0 => v0)"},
		{"fun b => fun c => a b c", "a", "b c", "fun v0 => fun v1 => b c v0 v1"},
		{"fun b => fun c => a b", "a", "b c", "fun v0 => fun v1 => b c v0"},
		{"fun b => fun c => a c", "a", "b c", "fun v0 => fun v0 => b c v0"},
		{"fun b => fun b => a b", "a", "b", "fun v0 => fun v0 => b v0"},
		{"fun b => fun v0 => a b v0", "a", "b", "fun v0 => fun v1 => b v0 v1"},
		{"fun b => (a, fun b => b)", "a", "b", "fun v0 => (b, fun b => b)"},
		{"(fun b => a b) (fun b => b)", "a", "b", "(fun v0 => b v0) (fun b => b)"},
		{"let b = a b in a b", "a", "b", "let v0 = b b in b v0"},
		{"let b = a b in b", "a", "b", "let b = b b in b"},
		{"case a b of b => a b | c => a c", "a", "b", "case b b of v0 => b v0 | c => b c"},
		{"case a c of b => a b | c => a c", "a", "c", "case c c of b => c b | v0 => c v0"},
		{"case b of b => a b v0 | c => a c v1", "a", "b c", "case b of v1 => b c v1 v0 | v0 => b c v0 v1"},
		{"case b of b => b | b => a b", "a", "b", "case b of b => b | v0 => b v0"},
		{"case b of b => a b | b => b", "a", "b", "case b of v0 => b v0 | b => b"},
		{"fun b => let b = a b in b", "a", "b", "fun v0 => let b = b v0 in b"},
		{"fun b => case b of a => a | b => b", "a", "b", "fun b => case b of a => a | b => b"},
	} {
		putText(t, c[0], c[1], c[2], c[3])
	}
}

// smallNames are those of small terms: some that are put in, and some that are taken in the place of others.
func smallNames() []string { return []string{"a", "v0", "v1"} }

// TestPutAll: P12.4, all small terms against the plain reading.
func TestPutAll(t *testing.T) {
	var xs, ys []api.Term
	for n := 1; n < 5; n++ {
		xs = append(xs, allTerms(n, smallNames()[:2], 0)...)
	}
	for n := 1; n < 3; n++ {
		ys = append(ys, allTerms(n, smallNames(), 0)...)
	}
	ys = append(ys, app(v("a"), v("v0")), app(v("v0"), v("v1")), app(v("v1"), v("a")))
	for _, x := range xs {
		for _, y := range ys {
			got, e := term.Put(x, "a", y)
			if want := plainPut(x, "a", y); e != api.OK || !alike(got, want) {
				t.Fatalf("Put(%s, a, %s): %s, error %d, not %s", show(x), show(y), show(got), e, show(want))
			}
		}
	}
}

// TestPutAny: P12.4, larger terms by chance against the plain reading, with names that make many renamings.
func TestPutAny(t *testing.T) {
	chance := newChance(5)
	names := []string{"a", "b", "v0", "v1", "v2", "v3"}
	for i := range 20000 {
		some := names[:2+chance.IntN(5)]
		x := someTerm(chance, 2+chance.IntN(7), some, 2)
		y := someTerm(chance, 1+chance.IntN(3), names, 2)
		name := some[chance.IntN(len(some))]
		want := plainPut(x, name, y)
		if i%20 == 0 {
			puts(t, x, name, y, want)
		} else if got, e := term.Put(x, name, y); e != api.OK || !alike(got, want) {
			t.Fatalf("Put(%s, %s, %s): %s, error %d, not %s", show(x), name, show(y), show(got), e, show(want))
		}
	}
}

// someChain is a term by chance of bindings within each other, all of whose names are at the bottom: each renaming makes others necessary.
func someChain(chance interface{ IntN(int) int }, long int, names []string) api.Term {
	name := func() string { return names[chance.IntN(len(names))] }
	var l []api.Term
	for _, n := range names {
		l = append(l, v(n))
	}
	x := balanced(l)
	for range long {
		switch chance.IntN(5) {
		case 0:
			x = choose(v(name()), name(), x, name(), v(name()))
		case 1:
			x = choose(v(name()), name(), v(name()), name(), x)
		case 2:
			x = let(name(), v(name()), x)
		default:
			x = lam(name(), x)
		}
		if chance.IntN(3) == 0 {
			x = app(x, v(name()))
		}
	}
	return x
}

// TestPutChains: P12.4, renamings within renamings, against the plain reading.
func TestPutChains(t *testing.T) {
	chance := newChance(6)
	names := []string{"a", "b", "c", "v0", "v1", "v2", "v3", "v4", "v5", "v6"}
	for range 8000 {
		some := slices.Clone(names[:3+chance.IntN(8)])
		x := someChain(chance, 1+chance.IntN(9), some)
		y := someTerm(chance, 1+chance.IntN(3), some, 0)
		name := some[chance.IntN(len(some))]
		got, e := term.Put(x, name, y)
		if want := plainPut(x, name, y); e != api.OK || !alike(got, want) {
			t.Fatalf("Put(%s, %s, %s): %s, error %d, not %s", show(x), name, show(y), show(got), e, show(want))
		}
	}
}

// TestPutPushed: P12.4, a row of bindings each of which is pushed on to the next name, as often as there are some ahead that are renamed.
func TestPutPushed(t *testing.T) {
	for pushing := 1; pushing < 5; pushing++ {
		for pushed := range 7 {
			var names []string
			for i := range pushing {
				names = append(names, "b"+strconv.Itoa(i))
			}
			y := balanced(vars(names))
			for i := range pushed {
				names = append(names, number(i))
			}
			x := balanced(vars(append([]string{"a"}, names...)))
			for _, name := range slices.Backward(names) {
				x = lam(name, x)
			}
			puts(t, x, "a", y, plainPut(x, "a", y))
		}
	}
}

func vars(names []string) []api.Term {
	var l []api.Term
	for _, name := range names {
		l = append(l, v(name))
	}
	return l
}

// TestPutDeep: P12.4, many bindings within each other, all of which are renamed, in a moment.
func TestPutDeep(t *testing.T) {
	const many = 1000
	var names, others []string
	for i := range many {
		names, others = append(names, "x"+strconv.Itoa(i)), append(others, number(i))
	}
	build := func(bound []string, a api.Term) api.Term {
		x := pair(a, balanced(vars(bound)))
		for _, name := range slices.Backward(bound) {
			x = lam(name, x)
		}
		return x
	}
	y := balanced(vars(names))
	puts(t, build(names, v("a")), "a", y, build(others, y))
	// Of each of these the next one is in the way.
	puts(t, lam("y", build(others[:many-1], v("y"))), "z", v("y"), lam("y", build(others[:many-1], v("y"))))
	puts(t, lam("y", app(v("z"), build(others[:500], v("y")))), "z", v("y"), lam("v0", app(v("y"), build(others[1:501], v("v0")))))
}

// TestPutLarge: P12.4, ErrLarge just if there would be too many nodes or levels, however many.
func TestPutLarge(t *testing.T) {
	x := pair(v("a"), v("a"))
	puts(t, x, "a", sized(32767, "b"), pair(sized(32767, "b"), sized(32767, "b"))) // 65535
	refusesPut(t, x, "a", sized(32768, "b"), api.ErrLarge)
	puts(t, of(api.TFst, x), "a", sized(32767, "b"), of(api.TFst, pair(sized(32767, "b"), sized(32767, "b")))) // 65536
	refusesPut(t, of(api.TFst, of(api.TFst, x)), "a", sized(32767, "b"), api.ErrLarge)
	puts(t, sized(65535, "a"), "a", v("b"), sized(65535, "b"))
	puts(t, sized(65536, "a"), "a", v("b"), sized(65536, "b"))
	refusesPut(t, sized(65536, "a"), "a", sized(65536, "b"), api.ErrLarge)
	refusesPut(t, sized(65535, "a"), "a", of(api.TFst, v("b")), api.ErrLarge)
	puts(t, crowded(21845, "a"), "a", v("b"), crowded(21845, "b"))           // 65536 nodes, 43691 places
	refusesPut(t, crowded(21845, "a"), "a", sized(65536, "b"), api.ErrLarge) // more nodes than 32 bits have room for
	puts(t, v("a"), "a", sized(65536, "a"), sized(65536, "a"))
	puts(t, v("b"), "a", sized(65536, "a"), v("b"))
	puts(t, lam("a", sized(65535, "a")), "a", sized(65536, "b"), lam("a", sized(65535, "a")))
	puts(t, let("a", v("a"), sized(1001, "a")), "a", sized(64534, "b"), let("a", sized(64534, "b"), sized(1001, "a")))
	refusesPut(t, let("a", v("a"), sized(1001, "a")), "a", sized(64535, "b"), api.ErrLarge)
	puts(t, choose(v("c"), "a", sized(20001, "a"), "b", v("a")), "a", sized(45533, "c"), choose(v("c"), "a", sized(20001, "a"), "b", sized(45533, "c")))
	refusesPut(t, choose(v("c"), "a", sized(20001, "a"), "b", v("a")), "a", sized(45534, "c"), api.ErrLarge)
	puts(t, choose(v("c"), "b", v("a"), "a", sized(20001, "a")), "a", sized(45533, "c"), choose(v("c"), "b", sized(45533, "c"), "a", sized(20001, "a")))
	refusesPut(t, choose(v("c"), "b", v("a"), "a", sized(20001, "a")), "a", sized(45534, "c"), api.ErrLarge)
}

// crowded is a term of so many cases, and of names alone besides.
func crowded(cases int, name string) api.Term {
	if cases == 0 {
		return v(name)
	}
	n := cases - 1
	return choose(crowded(n/3, name), "n", crowded((n+1)/3, name), "m", crowded((n+2)/3, name))
}

// TestPutTall: P12.4, levels up to MaxDeep, through each part of each kind.
func TestPutTall(t *testing.T) {
	for i := range holders(v("a")) {
		x := holders(holders(v("a"))[i])[i]
		y := tall(1022, v("b"))
		puts(t, x, "a", y, holders(holders(y)[i])[i])
		refusesPut(t, x, "a", tall(1023, v("b")), api.ErrLarge)
		puts(t, x, "b", tall(1024, v("b")), x)
	}
	for _, k := range []api.TermKind{api.TPair, api.TApp} { // the deepest place is not the last one, or not the first one
		puts(t, of(k, tall(500, v("a")), v("a")), "a", tall(524, v("b")), of(k, tall(1023, v("b")), tall(524, v("b"))))
		refusesPut(t, of(k, tall(500, v("a")), v("a")), "a", tall(525, v("b")), api.ErrLarge)
		refusesPut(t, of(k, v("a"), tall(500, v("a"))), "a", tall(525, v("b")), api.ErrLarge)
	}
	puts(t, tall(1024, v("a")), "a", v("b"), tall(1024, v("b")))
	refusesPut(t, tall(1024, v("a")), "a", of(api.TFst, v("b")), api.ErrLarge)
	puts(t, pair(tall(1023, v("b")), v("a")), "a", tall(1023, v("c")), pair(tall(1023, v("b")), tall(1023, v("c"))))
	refusesPut(t, pair(tall(1023, v("b")), of(api.TFst, v("a"))), "a", tall(1023, v("c")), api.ErrLarge)
	puts(t, pair(lam("a", tall(1022, v("a"))), v("a")), "a", tall(1023, v("c")), pair(lam("a", tall(1022, v("a"))), tall(1023, v("c"))))
	puts(t, tall(500, lam("b", tall(500, v("a")))), "a", tall(25, v("b")), tall(500, lam("v0", tall(524, v("b")))))
	refusesPut(t, tall(500, lam("b", tall(500, v("a")))), "a", tall(26, v("b")), api.ErrLarge)
}

// TestPutRefused: P12.4, what is refused, and in which order.
func TestPutRefused(t *testing.T) {
	wrong, large := lam("fun", v("a")), tall(1025, v("a"))
	for _, y := range []api.Term{v("y"), wrong, large, {}, sized(65537, "y")} {
		for _, name := range append(noNames(), "a") {
			refusesPut(t, wrong, name, y, api.ErrTerm)
			refusesPut(t, api.Term{}, name, y, api.ErrTerm)
			refusesPut(t, large, name, y, api.ErrLarge)
			refusesPut(t, sized(65537, "fun"), name, y, api.ErrLarge)
		}
	}
	for _, x := range []api.Term{v("a"), v("b"), lam("a", v("a"))} {
		for _, name := range append(noNames(), "a") {
			refusesPut(t, x, name, wrong, api.ErrTerm)
			refusesPut(t, x, name, large, api.ErrLarge)
			refusesPut(t, x, name, api.Term{}, api.ErrTerm)
		}
	}
	for _, name := range noNames() {
		refusesPut(t, v("a"), name, v("y"), api.ErrAtom)
		refusesPut(t, tall(1024, v("a")), name, tall(1024, v("y")), api.ErrAtom)
	}
	for _, name := range someNames() {
		puts(t, app(v(name), v("y")), name, v("z"), app(v("z"), v("y")))
	}
}

// TestPutOwn: R3, an answer is new memory, also where nothing is put, and where a list has room behind its end.
func TestPutOwn(t *testing.T) {
	x := pair(v("a"), lam("b", v("b")))
	x.Sub = append(x.Sub, api.Term{}, api.Term{})[:2]
	puts(t, x, "c", v("d"), clone(x))
	y := pair(v("c"), v("d"))
	puts(t, x, "a", y, pair(clone(y), lam("b", v("b"))))
	empty := v("a")
	empty.Sub = make([]api.Term, 3)[:0]
	puts(t, empty, "c", empty, v("a"))
	puts(t, empty, "a", empty, v("a"))
	puts(t, pair(empty, empty), "a", pair(empty, empty), pair(pair(v("a"), v("a")), pair(v("a"), v("a"))))
	shared := pair(v("a"), v("b"))
	puts(t, pair(shared, shared), "c", v("d"), pair(shared, shared))
	puts(t, pair(v("a"), v("a")), "a", pair(shared, shared), pair(pair(shared, shared), pair(shared, shared)))
}
