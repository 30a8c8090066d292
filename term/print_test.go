package term_test

import (
	"slices"
	"strings"
	"testing"

	"dictum/api"
	"dictum/formula"
	"dictum/term"
)

// TestPrint: P12.6, the text of each kind.
func TestPrint(t *testing.T) {
	a, b, c := v("a"), v("b"), v("c")
	x := made(t, atom("p"), atom("q"), join(api.KImp, 0, 1), bot(), join(api.KImp, 2, 3), join(api.KImp, 3, 3), join(api.KOr, 2, 0))
	for want, y := range map[string]api.Term{
		"a":            a,
		"fun x => a":   lam("x", a),
		"a b":          app(a, b),
		"(a, b)":       pair(a, b),
		"fst a":        of(api.TFst, a),
		"snd a":        of(api.TSnd, a),
		"inl a":        of(api.TInl, a),
		"inr a":        of(api.TInr, a),
		"abort a":      of(api.TAbort, a),
		"(a : p)":      the(a, 0),
		"(a : p -> q)": the(a, 2),

		"(a : ~(p -> q))":           the(a, 4),
		"(a : true)":                the(a, 5),
		"(a : (p -> q) | p)":        the(a, 6),
		"((a : p) : false)":         the(the(a, 0), 3),
		"let x = a in b":            let("x", a, b),
		"case a of x => b | y => c": choose(a, "x", b, "y", c),
		"A' (h_1 v0)":               app(v("A'"), app(v("h_1"), v("v0"))),
	} {
		prints(t, x, y, want)
	}
}

// TestPrintEnclosed: P12.6, for each kind within each part of each kind, whether it stands in parentheses.
func TestPrintEnclosed(t *testing.T) {
	x := filled(t, nil, 8)
	const far = "fun n => z;case z of n => x0 | m => x1;let n = z in x0"
	const near = "z x0;fst z;snd z;inl z;inr z;abort z"
	const own = "z;(z, x0);(z : fill7)"
	for _, y := range []struct{ ahead, behind, enclosed string }{
		{"", " x0", far}, {"x0 ", "", far + ";" + near},
		{"fst ", "", far + ";" + near}, {"snd ", "", far + ";" + near}, {"inl ", "", far + ";" + near}, {"inr ", "", far + ";" + near}, {"abort ", "", far + ";" + near},
		{"fun n => ", "", ""}, {"(", ", x0)", ""}, {"(x0, ", ")", ""}, {"(", " : fill7)", ""}, {"let n = ", " in x0", ""}, {"let n = x0 in ", "", ""},
		{"case ", " of n => x0 | m => x1", ""}, {"case x0 of n => ", " | m => x1", ""}, {"case x0 of n => x1 | m => ", "", ""},
	} {
		for inner := range strings.SplitSeq(far+";"+near+";"+own, ";") {
			text := y.ahead + inner + y.behind
			if slices.Contains(strings.Split(y.enclosed, ";"), inner) {
				text = y.ahead + "(" + inner + ")" + y.behind
			}
			z, f := term.Parse(x, y.ahead+"("+inner+")"+y.behind)
			if f != (api.Fault{}) {
				t.Fatal(text, f)
			}
			prints(t, x, z, text)
		}
	}
}

// TestPrintAll: P12.6, all small terms against the plain reading; what is written is read as the same term.
func TestPrintAll(t *testing.T) {
	x := made(t, atom("p"), join(api.KAnd, 0, 0))
	for n := 1; n < 5; n++ {
		for _, y := range allTerms(n, []string{"a", "b"}, x.Len()) {
			text, e := term.Print(x, y)
			if e != api.OK || text != plainPrint(x, y) {
				t.Fatalf("Print(%s): %q, error %d", show(y), text, e)
			}
			if z, f := term.Parse(x, text); f != (api.Fault{}) || !alike(z, y) {
				t.Fatalf("Parse(%q): %s, fault %v", text, show(z), f)
			}
		}
	}
}

// TestPrintLeast: P12.6, without any one pair of parentheses the text is another one.
func TestPrintLeast(t *testing.T) {
	x := made(t, atom("p"), atom("q"))
	chance := newChance(7)
	for range 500 {
		y := someTerm(chance, 5, []string{"a", "b"}, x.Len())
		text, _ := term.Print(x, y)
		for i, c := range text {
			if c != '(' {
				continue
			}
			less := text[:i] + text[i+1:]
			at, open := i, 1
			for ; open > 0; at++ {
				open += strings.Count(less[at:at+1], "(") - strings.Count(less[at:at+1], ")")
			}
			less = less[:at-1] + less[at:]
			if z, f := term.Parse(x.Copy(), less); f.Code == api.OK && alike(z, y) {
				t.Fatalf("%q could be %q", text, less)
			}
		}
	}
}

// TestPrintRefused: P12.6, ErrNil, Check's errors, ErrForm, ErrLong, in this order.
func TestPrintRefused(t *testing.T) {
	long := balanced(slices.Repeat([]api.Term{v(strings.Repeat("n", 31))}, 3000))
	wrong, large := lam("fun", v("x")), tall(1025, v("x"))
	for _, x := range []*formula.Table{nil, new(formula.Table)} {
		for _, y := range []api.Term{v("x"), wrong, large, {}, long, the(v("x"), 0), the(v("x"), -1)} {
			refusesPrint(t, x, y, api.ErrNil)
		}
	}
	x := made(t, atom("p"), atom("q"))
	for form := 2; form < api.MaxForms; form++ {
		refusesPrint(t, x, the(v("x"), form), api.ErrForm)
	}
	refusesPrint(t, formula.New(), the(v("x"), 0), api.ErrForm)
	for _, form := range noForms() {
		refusesPrint(t, x, the(v("x"), form), api.ErrTerm)
	}
	refusesPrint(t, x, api.Term{}, api.ErrTerm)
	refusesPrint(t, x, large, api.ErrLarge)
	refusesPrint(t, x, long, api.ErrLong)
	unknown := the(v("x"), 2)
	for _, y := range append(holders(unknown), pair(the(v("x"), 0), pair(the(v("x"), 1), unknown)), the(the(v("x"), 2), 1)) {
		refusesPrint(t, x, y, api.ErrForm)
		refusesPrint(t, x, pair(y, wrong), api.ErrTerm)
		refusesPrint(t, x, pair(y, large), api.ErrLarge)
		refusesPrint(t, x, pair(long, y), api.ErrForm)
		refusesPrint(t, x, pair(y, long), api.ErrForm)
	}
	prints(t, formula.New(), v("x"), "x")
	full := filled(t, nil, api.MaxForms)
	prints(t, full, the(v("x"), 1023), "(x : fill1023)")
	full.Cut(1023)
	refusesPrint(t, full, the(v("x"), 1023), api.ErrForm)
}

// TestPrintLong: P12.6, up to MaxText bytes, wherever the last one stands.
func TestPrintLong(t *testing.T) {
	x := made(t, atom("p"))
	// A pair of texts of n bytes each has 2n + 4 bytes: from 12 on, 28, 60, .. 65532.
	y := v("abcd")
	for range 12 {
		y = pair(y, y)
	}
	text, e := term.Print(x, y)
	if e != api.OK || len(text) != 4096*8-4 {
		t.Fatalf("%d bytes, error %d", len(text), e)
	}
	whole := pair(y, y) // 65532 bytes
	for _, c := range []struct {
		ahead, behind string
		f             func(x api.Term) api.Term
	}{
		{"", " a a", func(x api.Term) api.Term { return app(app(x, v("a")), v("a")) }},
		{"", " abc", func(x api.Term) api.Term { return app(x, v("abc")) }},
		{"abc ", "", func(x api.Term) api.Term { return app(v("abc"), x) }},
		{"fst ", "", func(x api.Term) api.Term { return of(api.TFst, x) }},
		{"inr ", "", func(x api.Term) api.Term { return of(api.TInr, x) }},
	} {
		prints(t, x, c.f(whole), c.ahead+"("+text+", "+text+")"+c.behind)
		refusesPrint(t, x, app(c.f(whole), v("a")), api.ErrLong)
	}
	for _, y := range append(holders(whole), app(whole, v("abcd")), app(v("abcd"), whole)) {
		if y.Kind == api.TThe {
			y.Form = 0
		}
		if want := plainPrint(x, y); len(want) > api.MaxText {
			refusesPrint(t, x, y, api.ErrLong)
		} else {
			prints(t, x, y, want)
		}
	}
	if y, f := term.Parse(x, "("+text+", "+text+") abc"); f != (api.Fault{}) || !alike(y, app(whole, v("abc"))) {
		t.Error(f)
	}
}

// grown is a table of p and formulas each of which is the one ahead of it with itself: their texts double.
func grown(t *testing.T, many int) *formula.Table {
	t.Helper()
	x := made(t, atom("p"))
	for i := range many - 1 {
		if _, e := x.And(i, i); e != api.OK {
			t.Fatal(e)
		}
	}
	return x
}

// TestPrintLongForms: P12.6, formulas whose texts are too long, by themselves or together; also such as nobody could write.
func TestPrintLongForms(t *testing.T) {
	x := grown(t, 1024)
	for form := range 1024 {
		want := api.ErrLong
		if form < 14 { // 6 * 2^13 - 5 bytes
			want = api.OK
		}
		text, e := term.Print(x, the(v("a"), form))
		if e != want || e == api.OK && text != plainPrint(x, the(v("a"), form)) {
			t.Errorf("formula %d: %d bytes, error %d", form, len(text), e)
		}
	}
	refusesPrint(t, x, pair(the(v("a"), 13), the(v("a"), 13)), api.ErrLong)
	refusesPrint(t, x, the(the(v("a"), 1000), 0), api.ErrLong)
	many := balanced(slices.Repeat([]api.Term{the(v("a"), 13)}, 20000))
	refusesPrint(t, x, many, api.ErrLong)
	s := plainPrint(x, the(v("a"), 12))
	prints(t, x, pair(the(v("a"), 12), the(v("a"), 12)), "("+s+", "+s+")")
}

// TestPrintDeep: P12.6 and P12.7, as many levels as may be, in parentheses all along.
func TestPrintDeep(t *testing.T) {
	x := made(t, atom("p"))
	for i := range holders(v("a")) {
		y := v("a")
		for range 1023 {
			y = holders(y)[i]
			if y.Kind == api.TThe {
				y.Form = 0
			}
		}
		text, e := term.Print(x, y)
		if e != api.OK || text != plainPrint(x, y) {
			t.Errorf("%d bytes, error %d", len(text), e)
		}
		if z, f := term.Parse(x, text); f != (api.Fault{}) || !alike(y, z) {
			t.Errorf("%.60q: fault %v", text, f)
		}
	}
}
