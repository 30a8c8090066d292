package term_test

import (
	"maps"
	"slices"
	"strings"
	"testing"

	"dictum/api"
	"dictum/formula"
	"dictum/term"
	"dictum/token"
)

// put is Put where it is not refused.
func put(t *testing.T, x api.Term, name string, y api.Term) api.Term {
	t.Helper()
	z, e := term.Put(x, name, y)
	if e != api.OK {
		t.Fatalf("Put(%s, %s, %s): error %d", show(x), name, show(y), e)
	}
	return z
}

// someTable is a table by chance.
func someTable(chance interface{ IntN(int) int }, many int) *formula.Table {
	x := formula.New()
	x.Atom("p")
	for x.Len() < many {
		switch chance.IntN(5) {
		case 0:
			x.Atom(string(rune('p' + chance.IntN(5))))
		case 1:
			x.Not(chance.IntN(x.Len()))
		default:
			k := api.KAnd + api.Kind(chance.IntN(3))
			x.Put(join(k, chance.IntN(x.Len()), chance.IntN(x.Len())))
		}
	}
	return x
}

// TestFollowsPrint: P12.7, Parse of what Print writes is the same term, and puts nothing into the table; also with blanks and comments between tokens.
func TestFollowsPrint(t *testing.T) {
	chance := newChance(8)
	for range 2000 {
		x := someTable(chance, 1+chance.IntN(9))
		y := someTerm(chance, 1+chance.IntN(7), []string{"a", "b", "v0", "x'"}, x.Len())
		text, e := term.Print(x, y)
		if e != api.OK || text != plainPrint(x, y) {
			t.Fatalf("Print(%s): %q, error %d, not %q", show(y), text, e, plainPrint(x, y))
		}
		parses(t, x, text, y)
		l, _ := token.Scan(text)
		parses(t, x, strings.Join(texts(l), []string{"  ", "\n", " # ) é\n"}[chance.IntN(3)]), y)
	}
}

// loosely is a term's text with parentheses round all parts but names, and by chance round these, too, and more of them.
func loosely(chance interface{ IntN(int) int }, t *formula.Table, x api.Term) string {
	part := func(i int) string {
		s := loosely(chance, t, x.Sub[i])
		n := chance.IntN(3)
		if x.Sub[i].Kind != api.TVar {
			n++
		}
		return strings.Repeat("(", n) + s + strings.Repeat(")", n)
	}
	switch x.Kind {
	case api.TVar:
		return x.Name
	case api.TLam:
		return "fun " + x.Name + " => " + part(0)
	case api.TApp:
		return part(0) + " " + part(1)
	case api.TPair:
		return "(" + part(0) + ", " + part(1) + ")"
	case api.TCase:
		return "case " + part(0) + " of " + x.Name + " => " + part(1) + " | " + x.Other + " => " + part(2)
	case api.TThe:
		return "(" + part(0) + " : " + strings.TrimPrefix(plainPrint(t, the(v("a"), x.Form)), "(a : ")
	case api.TLet:
		return "let " + x.Name + " = " + part(0) + " in " + part(1)
	}
	return []string{"fst", "snd", "inl", "inr", "abort"}[slices.Index(heads(), x.Kind)] + " " + part(0)
}

// TestFollowsParentheses: P12.5, a term in more parentheses than it needs is the same term.
func TestFollowsParentheses(t *testing.T) {
	chance := newChance(14)
	for range 2000 {
		x := someTable(chance, 1+chance.IntN(9))
		y := someTerm(chance, 1+chance.IntN(6), []string{"a", "b", "v0"}, x.Len())
		parses(t, x, loosely(chance, x, y), y)
	}
}

// TestFollowsFree: P12.7, what is free behind Put.
func TestFollowsFree(t *testing.T) {
	chance := newChance(9)
	names := []string{"a", "b", "c", "v0", "v1"}
	for range 5000 {
		x := someTerm(chance, 1+chance.IntN(6), names, 1)
		y := someTerm(chance, 1+chance.IntN(4), names, 1)
		want := plainFree(x)
		if want["a"] {
			delete(want, "a")
			maps.Copy(want, plainFree(y))
		}
		frees(t, put(t, x, "a", y), slices.Sorted(maps.Keys(want))...)
	}
}

// TestFollowsAlpha: P12.7, Alpha is an equivalence, and Put keeps it.
func TestFollowsAlpha(t *testing.T) {
	chance := newChance(10)
	names := []string{"a", "b", "v0", "v1"}
	var l []api.Term
	for range 60 {
		x := someTerm(chance, 1+chance.IntN(3), names[:2], 0)
		next := 0
		l = append(l, x, renamed(x, &next), someTerm(chance, 2, names[:2], 0))
	}
	for _, x := range l {
		if !term.Alpha(x, x) {
			t.Errorf("%s is not like itself", show(x))
		}
		for _, y := range l {
			if term.Alpha(x, y) != term.Alpha(y, x) {
				t.Errorf("%s and %s: like one another one way", show(x), show(y))
			}
			for _, z := range l {
				if term.Alpha(x, y) && term.Alpha(y, z) && !term.Alpha(x, z) {
					t.Errorf("%s, %s, %s: no equivalence", show(x), show(y), show(z))
				}
			}
		}
	}
	for range 4000 {
		x := someTerm(chance, 1+chance.IntN(6), names, 1)
		y := someTerm(chance, 1+chance.IntN(4), names, 1)
		next := 0
		otherX, otherY := renamed(x, &next), renamed(y, &next)
		alpha(t, put(t, x, "a", y), put(t, otherX, "a", otherY), true)
		alpha(t, put(t, x, "v0", y), put(t, otherX, "v0", y), true)
	}
}

// TestFollowsLemma: P12.7, the substitution lemma.
func TestFollowsLemma(t *testing.T) {
	chance := newChance(11)
	names := []string{"a", "b", "c", "v0", "v1"}
	lemma := func(x api.Term, a string, y api.Term, b string, w api.Term) {
		t.Helper()
		alpha(t, put(t, put(t, x, a, y), b, w), put(t, put(t, x, b, w), a, put(t, y, b, w)), true)
	}
	for tried := 0; tried < 5000; {
		x := someTerm(chance, 1+chance.IntN(5), names, 1)
		y := someTerm(chance, 1+chance.IntN(3), names, 1)
		w := someTerm(chance, 1+chance.IntN(3), names, 1)
		a, b := names[chance.IntN(5)], names[chance.IntN(5)]
		if a != b && !plainFree(w)[a] {
			lemma(x, a, y, b, w)
			tried++
		}
	}
	var l []api.Term
	for n := 1; n < 4; n++ {
		l = append(l, allTerms(n, []string{"a", "b"}, 0)...)
	}
	for _, x := range l {
		for _, y := range l[:16] {
			lemma(x, "a", y, "b", v("v0"))
			lemma(x, "a", y, "b", lam("a", app(v("a"), v("b"))))
		}
	}
}

// TestFollowsPut: what one expects of Put besides: a name in its own place, a name that is not free, a new name there and back.
func TestFollowsPut(t *testing.T) {
	chance := newChance(12)
	names := []string{"a", "b", "c", "v0", "v1"}
	for range 3000 {
		x := someTerm(chance, 1+chance.IntN(6), names, 1)
		y := someTerm(chance, 1+chance.IntN(4), names, 1)
		alpha(t, put(t, x, "a", v("a")), x, true)
		puts(t, x, "z", y, x)
		alpha(t, put(t, put(t, x, "a", v("z")), "z", v("a")), x, true)
		alpha(t, put(t, x, "a", y), put(t, put(t, x, "a", v("z")), "z", y), true)
	}
}

// TestSame: R4 and R8, the same call on the same arguments answers the same, whatever was called between.
func TestSame(t *testing.T) {
	chance := newChance(13)
	names := []string{"a", "b", "v0", "v1", "v2"}
	for range 200 {
		x := someTerm(chance, 6, names, 1)
		y := someTerm(chance, 4, names, 1)
		first := put(t, x, "a", y)
		list, _ := term.Free(first)
		for range 5 {
			put(t, y, "v0", x)
			puts(t, x, "a", y, first)
			frees(t, first, list...)
		}
	}
}
