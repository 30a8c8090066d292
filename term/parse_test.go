package term_test

import (
	"slices"
	"strconv"
	"strings"
	"testing"

	"dictum/api"
	"dictum/formula"
	"dictum/term"
)

// TestParse: P12.5, each row of the grammar.
func TestParse(t *testing.T) {
	a, b, c, d := v("a"), v("b"), v("c"), v("d")
	for text, want := range map[string]api.Term{
		"a":             a,
		"(a)":           a,
		"(((a)))":       a,
		"a b":           app(a, b),
		"a b c":         app(app(a, b), c),
		"a (b c)":       app(a, app(b, c)),
		"(a b) c":       app(app(a, b), c),
		"(a b) (c d)":   app(app(a, b), app(c, d)),
		"a(b)c":         app(app(a, b), c),
		"(a, b)":        pair(a, b),
		"((a, b), c)":   pair(pair(a, b), c),
		"(a, (b, c))":   pair(a, pair(b, c)),
		"(a b, c d)":    pair(app(a, b), app(c, d)),
		"a (b, c) d":    app(app(a, pair(b, c)), d),
		"fst a":         of(api.TFst, a),
		"snd a":         of(api.TSnd, a),
		"inl a":         of(api.TInl, a),
		"inr a":         of(api.TInr, a),
		"abort a":       of(api.TAbort, a),
		"fst a b":       app(of(api.TFst, a), b),
		"snd a b c":     app(app(of(api.TSnd, a), b), c),
		"inl (a b)":     of(api.TInl, app(a, b)),
		"inr (a, b) c":  app(of(api.TInr, pair(a, b)), c),
		"abort (fst a)": of(api.TAbort, of(api.TFst, a)),
		"a (fst b)":     app(a, of(api.TFst, b)),
		"(fst a) b":     app(of(api.TFst, a), b),
		"fun a => b":    lam("a", b),

		"fun a => b c":             lam("a", app(b, c)),
		"fun a => fun b => c":      lam("a", lam("b", c)),
		"(fun a => b) c":           app(lam("a", b), c),
		"a (fun b => c d)":         app(a, lam("b", app(c, d))),
		"fst (fun a => b) c":       app(of(api.TFst, lam("a", b)), c),
		"(fun a => a, fun b => b)": pair(lam("a", a), lam("b", b)),
		"fun a => fst a b":         lam("a", app(of(api.TFst, a), b)),

		"let a = b in c":              let("a", b, c),
		"let a = b c in d a":          let("a", app(b, c), app(d, a)),
		"let a = let b = c in d in a": let("a", let("b", c, d), a),
		"let a = b in let c = d in a": let("a", b, let("c", d, a)),
		"let a = fun b => c in d":     let("a", lam("b", c), d),
		"fun a => let b = c in d":     lam("a", let("b", c, d)),

		"case a of b => c | d => d":           choose(a, "b", c, "d", d),
		"case a b of a => a b | c => c d":     choose(app(a, b), "a", app(a, b), "c", app(c, d)),
		"case fun a => a of a => a | b => b":  choose(lam("a", a), "a", a, "b", b),
		"case a of b => fun c => c | d => d":  choose(a, "b", lam("c", c), "d", d),
		"case a of b => b | c => fun d => d":  choose(a, "b", b, "c", lam("d", d)),
		"fun a => case a of b => b | c => c":  lam("a", choose(a, "b", b, "c", c)),
		"let a = b in case a of a=>a|a=>a":    let("a", b, choose(a, "a", a, "a", a)),
		"case let a = b in c of a=>a|b=>b":    choose(let("a", b, c), "a", a, "b", b),
		"case a of a => let b = c in d|c=>a":  choose(a, "a", let("b", c, d), "c", a),
		"(case a of b => b | c => c) d":       app(choose(a, "b", b, "c", c), d),
		"a (case a of b => b | c => c d) (b)": app(app(a, choose(a, "b", b, "c", app(c, d))), b),

		"case case a of a => a | b => b of c => c | d => d":          choose(choose(a, "a", a, "b", b), "c", c, "d", d),
		"case a of a => a | b => case b of c => c | d => d":          choose(a, "a", a, "b", choose(b, "c", c, "d", d)),
		"case a of a => (case b of c => c | d => d) | b => b":        choose(a, "a", choose(b, "c", c, "d", d), "b", b),
		"case a of a => fun b => case b of c => c | d => d | b => b": choose(a, "a", lam("b", choose(b, "c", c, "d", d)), "b", b),
		"case a of a => let b = case b of c=>c|d=>d in a | b => b a": choose(a, "a", let("b", choose(b, "c", c, "d", d), a), "b", app(b, a)),
		"fun a=>fun b=>case a of c=>fst c|d=>let a=b in(a,snd d)":    lam("a", lam("b", choose(a, "c", of(api.TFst, c), "d", let("a", b, pair(a, of(api.TSnd, d)))))),
		" # a term\n a\t(\r\nb # , c\n , c ) # d":                    app(a, pair(b, c)),
		"a' A_1 h12":                       app(app(v("a'"), v("A_1")), v("h12")),
		"fun funs => funs":                 lam("funs", v("funs")),
		strings.Repeat("n", 31) + " v0":    app(v(strings.Repeat("n", 31)), v("v0")),
		"let fsta = inl1 in ofs (caselet)": let("fsta", v("inl1"), app(v("ofs"), v("caselet"))),
		"inl (inr (fst (snd (abort a))))":  of(api.TInl, of(api.TInr, of(api.TFst, of(api.TSnd, of(api.TAbort, a))))),
		"case a of c => let c = fun a => a in c | d => (d, fun b => b) b": choose(a, "c", let("c", lam("a", a), c), "d", app(pair(d, lam("b", b)), b)),
	} {
		parses(t, formula.New(), text, want)
	}
}

// TestParseForms: P12.5 and R9, formulas as long as may be; they become rows in the order of the text, and what is a row already is not put again.
func TestParseForms(t *testing.T) {
	p, q, r := atom("p"), atom("q"), atom("r")
	a, b := v("a"), v("b")
	for _, c := range []struct {
		text string
		want api.Term
		rows []api.Node
	}{
		{"(a : p)", the(a, 0), []api.Node{p}},
		{"(a:p)", the(a, 0), []api.Node{p}},
		{"(a : (p))", the(a, 0), []api.Node{p}},
		{"((a : p))", the(a, 0), []api.Node{p}},
		{"(a : p & q | r)", the(a, 4), []api.Node{p, q, join(api.KAnd, 0, 1), r, join(api.KOr, 2, 3)}},
		{"(a : q -> p)", the(a, 2), []api.Node{q, p, join(api.KImp, 0, 1)}},
		{"(a : ~p)", the(a, 2), []api.Node{p, bot(), join(api.KImp, 0, 1)}},
		{"(a : true)", the(a, 1), []api.Node{bot(), join(api.KImp, 0, 0)}},
		{"(a : ⊥ → ⊥)", the(a, 1), []api.Node{bot(), join(api.KImp, 0, 0)}},
		{"(a : p <-> q)", the(a, 4), []api.Node{p, q, join(api.KImp, 0, 1), join(api.KImp, 1, 0), join(api.KAnd, 2, 3)}},
		{"((a : q) : p)", the(the(a, 0), 1), []api.Node{q, p}},
		{"((a : q), (b : p)) (a : r)", app(pair(the(a, 0), the(b, 1)), the(a, 2)), []api.Node{q, p, r}},
		{"(a (b : q) : p)", the(app(a, the(b, 0)), 1), []api.Node{q, p}},
		{"((a : p) (b : p) : p)", the(app(the(a, 0), the(b, 0)), 0), []api.Node{p}},
		{"(fun a => a : p -> p)", the(lam("a", a), 1), []api.Node{p, join(api.KImp, 0, 0)}},
		{"case (a : p | q) of a => (a : p) | b => (b : q)", choose(the(a, 2), "a", the(a, 0), "b", the(b, 1)), []api.Node{p, q, join(api.KOr, 0, 1)}},
		{"(case a of a => a | b => b : p | q)", the(choose(a, "a", a, "b", b), 2), []api.Node{p, q, join(api.KOr, 0, 1)}},
		{"let a = (b : p) in (a : q)", let("a", the(b, 0), the(a, 1)), []api.Node{p, q}},
		{"(a : a)", the(a, 0), []api.Node{atom("a")}},
	} {
		parses(t, formula.New(), c.text, c.want, c.rows...)
	}
	x := made(t, r, q)
	parses(t, x, "((a : p), (b : q & r))", pair(the(a, 2), the(b, 3)), p, join(api.KAnd, 1, 0))
	parses(t, x, "((a : q & r), ((b : r), (b : r | p)))", pair(the(a, 3), pair(the(b, 0), the(b, 4))), join(api.KOr, 0, 2))
	parses(t, x, "(a : r | p)", the(a, 4))
}

// TestParseFaults: P12.5, the first token with which no term can go on, or layer 2's fault, if none is ahead of it.
func TestParseFaults(t *testing.T) {
	x := made(t, atom("q"), bot())
	for text, off := range map[string]int{
		"": 0, " ": 1, "# a": 3, ")": 0, ",": 0, "(": 1, "()": 1, "( )": 2, "(,a)": 1, "(a": 2, "(a,": 3, "(a,)": 3, "(a, b": 5, "(a, b,": 5, "(a, b, c)": 5, "(a, b : p)": 6,
		"a)": 1, "a,": 1, "a, b": 1, "a : p": 2, "a b)": 3, "a ()": 3, "(a))": 3, "a = b": 2, "a => b": 2, "a | b": 2, "a -> b": 2, "a & b": 2, "~a": 0, "[a]": 0, "a.b": 1, "a;": 1,
		"fun": 3, "fun a": 5, "fun a =>": 8, "fun a = b": 6, "fun a b => c": 6, "fun => a": 4, "fun (a) => b": 4, "fun fun => a": 4, "fun in => a": 4, "fun _a => a": 4, "fun 7 => a": 4, "fun a => => b": 9, "fun true => a": 4,
		"a fun b => b": 2, "a let b = c in d": 2, "a case b of c => c | d => d": 2, "a fst b": 2, "fst": 3, "fst fst a": 4, "fst fun a => a": 4, "fst )": 4, "inl inr a": 4, "abort": 5, "snd let": 4, "(fst": 4, "(fst)": 4,
		"let": 3, "let a": 5, "let a = ": 8, "let a => b": 6, "let a = b": 9, "let a = b in": 12, "let a = b of c": 10, "let a = b in in": 13, "let let = a in b": 4, "let a = in b": 8, "let a b = c in d": 6, "let = a": 4, "let a = b, c": 9, "let a = case b of c => c | d => d in": 36,
		"case": 4, "case of": 5, "case a": 6, "case a in": 7, "case a of": 9, "case a of b": 11, "case a of b = c": 12, "case a of b => c": 16, "case a of b => c |": 18, "case a of b => c | d": 20, "case a of b => c | d => ": 24, "case a of b => | c => c": 15,
		"case a of fst => a | b => b": 10, "case a of b => b | of => b": 19, "case a of b => b, c => c": 16, "case a of b => c | d => d | e => e": 26, "case a of b => c |- d => d": 17, "case a of b => b || c => c": 18, "case a of (b) => c | d => d": 10,
		"of": 0, "in": 0, "in a": 0, "of a": 0, "true": 0, "false": 0, "a true": 2, "a ⊤": 2, "_a": 0, "a _b": 2, "7": 0, "a 7": 2, "a (b 7)": 5,
		"(a : )": 5, "(a :": 4, "(a : p": 6, "(a : p q)": 7, "(a : p, b)": 6, "(a : p : q)": 7, "(a : p &)": 8, "(a : (p)": 8, "(a : (p, q))": 7, "(a : let)": 5, "(a : fun x => x)": 5, "(a : p))": 7, "(a : p => q)": 7, "(a : ~)": 6, "(a : p -> )": 10, "(a : p |- q)": 7,
		"(: p)": 1, "(a :: p)": 4, "(a, b) : p": 7, "fun a => a : p": 11, "(fun a : p => a)": 7,
		"$": 0, "a $": 2, "a $ )": 2, ") $": 0, "(a $": 3, "fun $": 4, "fun a $": 6, "fun 7 $": 4, "fst $ a": 4, "(a : $)": 5, "(a : p $)": 7, "(a : p & & $)": 9, "(a : p q $)": 7, "let a = $": 8, "case a of b => c - d => e": 17, "a - b": 2, "a 007": 2, "a 1b": 2, "a <": 2, "é": 0, "a \xff": 2, "a\x00": 1, "a 'b": 2,
		"a\n(b,\n\n c d, e)": 11, "fun a # =>\n b": 12, "(a # )": 6, "⊥": 0, "a → b": 2,
	} {
		refuses(t, x, text, api.ErrParse, off)
	}
	long := strings.Repeat("n", 32)
	refuses(t, x, "a "+long, api.ErrParse, 2)
	refuses(t, x, "a , "+long, api.ErrParse, 2)
	refuses(t, x, "(a : "+long+")", api.ErrParse, 5)
	fails(t, x, "fun a =>\n\té", api.Fault{Code: api.ErrParse, At: api.Spot{Line: 2, Col: 2, Off: 10}})
	fails(t, x, "(a : ⊤ ∧ ¬p)\n # é\n  (b, c, d)", api.Fault{Code: api.ErrParse, At: api.Spot{Line: 3, Col: 8, Off: 31}})
}

// TestParseWords: P12.5, none of the words that are taken is a name, wherever one is wanted, and each stands only where the grammar has it.
func TestParseWords(t *testing.T) {
	x := made(t, atom("p"))
	begin := strings.Fields("abort case fst fun inl inr let snd")
	for _, word := range append(strings.Fields("abort case false fst fun in inl inr let of snd true"), "_a", "_") {
		for _, at := range []string{"fun ", "let ", "case a of ", "case a of b => b | ", "fst ", "snd ", "inl ", "inr ", "abort ", "a ", "(a : p) "} {
			refuses(t, x, at+word+" a", api.ErrParse, len(at))
		}
		for _, at := range []string{"", "(", "(a, ", "fun a => ", "let a = ", "let a = b in ", "case ", "case a of b => ", "case a of b => b | c => "} {
			if !slices.Contains(begin, word) {
				refuses(t, x, at+word+" a", api.ErrParse, len(at))
			} else {
				refuses(t, x, at+word, api.ErrParse, len(at+word))
			}
		}
	}
}

// TestParseLong: P12.5, up to MaxText bytes, whatever they are; more are told ahead of all but a table that no call made.
func TestParseLong(t *testing.T) {
	x := filled(t, nil, api.MaxForms)
	parses(t, x, "a"+strings.Repeat(" ", 65535), v("a"))
	parses(t, x, strings.Repeat("# é\n", 10000)+"a #"+strings.Repeat(" ", 65536-50003), v("a"))
	refuses(t, x, strings.Repeat(" ", 65536), api.ErrParse, 65536)
	fails(t, x, "a"+strings.Repeat(" ", 65536), api.Fault{Code: api.ErrLong})
	fails(t, x, strings.Repeat(" ", 65537), api.Fault{Code: api.ErrLong})
	fails(t, x, "$"+strings.Repeat(")", 65536), api.Fault{Code: api.ErrLong})
	fails(t, x, strings.Repeat("fun a => ", 65536)+"a", api.Fault{Code: api.ErrLong})
	fails(t, x, "(a : "+strings.Repeat("~", 65536)+"p)", api.Fault{Code: api.ErrLong})
	fails(t, x, strings.Repeat("a", 1<<20), api.Fault{Code: api.ErrLong})
}

// TestParseNested: P12.5, up to MaxNest of the term's own parentheses are open at once; a formula has as many of its own.
func TestParseNested(t *testing.T) {
	open, shut := strings.Repeat("(", 1024), strings.Repeat(")", 1024)
	parses(t, formula.New(), open+"a"+shut, v("a"))
	parses(t, formula.New(), open+"a"+shut+open+"b"+shut, app(v("a"), v("b")))
	refuses(t, formula.New(), open+"(a"+shut+")", api.ErrParse, 1024)
	refuses(t, formula.New(), open+"a (b)"+shut, api.ErrParse, 1026)
	refuses(t, formula.New(), open+"a"+shut+"("+open+"b)"+shut, api.ErrParse, 2049+1024)
	refuses(t, formula.New(), open+"fst ("+shut, api.ErrParse, 1028)
	refuses(t, formula.New(), strings.Repeat("(", 65536), api.ErrParse, 1024)
	parses(t, formula.New(), open[:1023]+"(a : "+open+"p"+shut+")"+shut[:1023], the(v("a"), 0), atom("p"))
	parses(t, formula.New(), open[:1023]+"(a : p)"+shut[:1023], the(v("a"), 0), atom("p"))
	refuses(t, formula.New(), open+"(a : p)"+shut, api.ErrParse, 1024)
	refuses(t, formula.New(), "(a : ("+open+"p"+shut+"))", api.ErrParse, 5+1024)
	pairs := strings.Repeat("(a, ", 1023) + "a" + strings.Repeat(")", 1023)
	want := v("a")
	for range 1023 {
		want = pair(v("a"), want)
	}
	parses(t, formula.New(), pairs, want)
	refuses(t, formula.New(), "(("+pairs+"))", api.ErrParse, 2+4*1022)
	typed := open[:1020] + "a" + strings.Repeat(" : p)", 1020)
	want = v("a")
	for range 1020 {
		want = the(want, 0)
	}
	parses(t, formula.New(), typed, want, atom("p"))
	refuses(t, formula.New(), open+"("+open, api.ErrParse, 1024)
}

// conjunction is p with & between, of so many counted tokens.
func conjunction(tokens int) string {
	return strings.Repeat("~", (tokens+1)%2) + strings.Repeat("p & ", (tokens-1)/2) + "p"
}

// TestParseTooBig: P12.5, Take's ErrTooBig, of each formula by itself; of that and ErrParse what comes first in the text.
func TestParseTooBig(t *testing.T) {
	fits, many := conjunction(512), conjunction(513)
	x := formula.New()
	y, f := term.Parse(x, "((a : "+fits+"), (b : "+fits+"))")
	if f != (api.Fault{}) || y.Kind != api.TPair || y.Sub[0].Form != x.Len()-1 || y.Sub[1].Form != x.Len()-1 {
		t.Errorf("%s, fault %v", show(y), f)
	}
	x = filled(t, nil, api.MaxForms)
	refuses(t, x, "(a : "+many+")", api.ErrTooBig, 5+len(many)-1)
	refuses(t, x, "(a : "+fits+" & p)", api.ErrTooBig, 5+len(fits)+1)
	refuses(t, x, "(a : "+fits+" &", api.ErrTooBig, 5+len(fits)+1)
	refuses(t, x, "(a : "+fits+" -> p)", api.ErrTooBig, 5+len(fits)+1)
	refuses(t, x, "(a : "+fits+" p)", api.ErrParse, 5+len(fits)+1)
	refuses(t, x, "(a : "+fits+" let)", api.ErrParse, 5+len(fits)+1)
	refuses(t, x, "(a : "+conjunction(511)+" & let)", api.ErrTooBig, 5+len(conjunction(511))+3)
	refuses(t, x, "(a : "+conjunction(509)+" & & let)", api.ErrParse, 5+len(conjunction(509))+3)
	refuses(t, x, "(a : "+many+" ) ) $", api.ErrTooBig, 5+len(many)-1)
	refuses(t, x, "(a : "+many+" $", api.ErrTooBig, 5+len(many)-1)
	refuses(t, x, "(a : p q "+many+")", api.ErrParse, 7)
	refuses(t, x, "(a : p) ) (a : "+many+")", api.ErrParse, 8)
	refuses(t, x, "(a : $ "+many+")", api.ErrParse, 5)
	refuses(t, x, "((a : "+fits+") : "+many+")", api.ErrTooBig, 6+len(fits)+4+len(many)-1)
	names := strings.Repeat("a ", 600) + "(a : p)"
	parses(t, formula.New(), names, row(600, the(v("a"), 0)), atom("p"))
}

// row is a applied to so many a, but one, and a last one.
func row(many int, last api.Term) api.Term {
	x := v("a")
	for range many - 1 {
		x = app(x, v("a"))
	}
	return app(x, last)
}

// TestParseLevels: P12.5, up to MaxDeep levels; ErrLarge is told behind what is wrong with the text, ahead of ErrForms.
func TestParseLevels(t *testing.T) {
	x := filled(t, nil, api.MaxForms)
	for _, c := range []struct{ ahead, bottom, behind string }{
		{"fun a => ", "a", ""}, {"let a = b in ", "a", ""}, {"let a = ", "a", " in b"}, {"case a of b => b | c => ", "a", ""}, {"case a of b => ", "a", " | c => c"}, {"case ", "a", " of b => b | c => c"}, {"fst (", "a", ")"}, {"(b, ", "a", ")"}, {"(", "a", ", b)"},
	} {
		text := func(levels int) string {
			return strings.Repeat(c.ahead, levels-1) + c.bottom + strings.Repeat(c.behind, levels-1)
		}
		y, f := term.Parse(x, text(1024))
		if f != (api.Fault{}) || term.Deep(y) != 1024 {
			t.Errorf("%q: %d levels, fault %v", c.ahead, term.Deep(y), f)
		}
		fails(t, x, text(1025), api.Fault{Code: api.ErrLarge})
		if !strings.Contains(c.ahead, "(") {
			fails(t, x, text(1500), api.Fault{Code: api.ErrLarge})
		}
		refuses(t, x, text(1025)+" $", api.ErrParse, len(text(1025))+1)
		refuses(t, x, text(1025)+")", api.ErrParse, len(text(1025)))
	}
	many := strings.Repeat("a ", 1023)
	parses(t, x, many+"a", row(1023, v("a")))
	fails(t, x, many+"a a", api.Fault{Code: api.ErrLarge})
	fails(t, x, strings.Repeat("a ", 32768), api.Fault{Code: api.ErrLarge})
	fails(t, x, many+"a (a : zz)", api.Fault{Code: api.ErrLarge})
	fails(t, x, many+"(a : zz)", api.Fault{Code: api.ErrForms})
	refuses(t, x, many+"a (a : "+conjunction(513)+")", api.ErrTooBig, len(many)+2+4+1+len(conjunction(513))-1)
	fails(t, x, strings.Repeat("fun a=>", 9000)+"a", api.Fault{Code: api.ErrLarge})
	fails(t, x, strings.Repeat("let a=", 5000)+"a"+strings.Repeat(" in a", 5000), api.Fault{Code: api.ErrLarge})
	refuses(t, x, strings.Repeat("let a=", 5000)+"a"+strings.Repeat(" in a", 5001), api.ErrParse, 5000*11+2)
	refuses(t, x, strings.Repeat("let a=", 5000)+"a"+strings.Repeat(" in a", 4999), api.ErrParse, 5000*11-4)
	refuses(t, x, strings.Repeat("case ", 13000), api.ErrParse, 65000)
}

// TestParseNodes: P12.5, as many nodes as a text has room for.
func TestParseNodes(t *testing.T) {
	text := func(names int) string {
		return strings.TrimSuffix(strings.Repeat("a ", names), " ")
	}
	many := strings.Repeat("("+text(500)+")", 65) + text(236) // 65536 bytes
	y, f := term.Parse(formula.New(), many)
	if f != (api.Fault{}) || term.Check(y) != api.OK || term.Size(y) != 2*(65*500+236)-1 {
		t.Errorf("%d nodes, fault %v, text of %d", term.Size(y), f, len(many))
	}
}

// TestParseFull: P12.5, tables that are full, or become full on the way, in each formula of the text: as they were behind ErrForms; with just as much room as is needed there is the term.
func TestParseFull(t *testing.T) {
	rows := []api.Node{atom("p"), atom("q"), join(api.KAnd, 0, 1)}
	for text, need := range map[string]int{
		"a b c":                              0,
		"(a : p & q)":                        0,
		"((a : p), (b : p & q))":             0,
		"(a : r)":                            1,
		"((a : r) : r)":                      1,
		"((a : r) : s)":                      2,
		"((a : p), (b : r))":                 1,
		"((a : r), (b : p & r))":             2,
		"fun a => (a : ~p)":                  2,
		"((a : ~p), (b : ~q))":               3,
		"(a : p <-> q)":                      3,
		"((a : q & p) (b : r -> s) : s)":     4,
		"case (a : r | s) of b => b | c=>c":  3,
		"let a = (a : true) in (a : ~false)": 2,
	} {
		for room := range need + 3 {
			x := filled(t, rows, api.MaxForms-room)
			if room < need {
				fails(t, x, text, api.Fault{Code: api.ErrForms})
				refuses(t, x, text+" )", api.ErrParse, len(text)+1)
				continue
			}
			y, f := term.Parse(x, text)
			if f != (api.Fault{}) || x.Len() != api.MaxForms-room+need {
				t.Errorf("%q, room for %d: fault %v, %d new rows", text, room, f, x.Len()-api.MaxForms+room)
			}
			empty := made(t, rows...)
			if z, _ := term.Parse(empty, text); plainPrint(x, y) != plainPrint(empty, z) {
				t.Errorf("%q, room for %d: %s", text, room, plainPrint(x, y))
			}
		}
	}
}

// TestParseWidest: P12.5, a formula that makes as many rows as MaxFormula tokens can is looked at whole, though the table has no room for it.
func TestParseWidest(t *testing.T) {
	var names []string
	for i := range 256 {
		names = append(names, "n"+strconv.Itoa(i))
	}
	wide := "~" + strings.Join(names, " <-> ")
	x := filled(t, nil, 1)
	if y, f := term.Parse(x, "(a : "+wide+")"); f != (api.Fault{}) || y.Form != 1023 || x.Len() != 1024 {
		t.Errorf("%s, fault %v, %d rows", show(y), f, x.Len())
	}
	x = filled(t, nil, 2)
	fails(t, x, "(a : "+wide+")", api.Fault{Code: api.ErrForms})
	refuses(t, x, "(a : "+wide+"))", api.ErrParse, len(wide)+6)
	fails(t, formula.New(), "((a : "+wide+"), (b : m & m))", api.Fault{Code: api.ErrForms})
}

// TestParseNil: P12.5 and R1, tables that no call made, ahead of all else.
func TestParseNil(t *testing.T) {
	for _, x := range []*formula.Table{nil, new(formula.Table)} {
		for _, text := range []string{"", "a", "(a : p)", ")", "$", strings.Repeat("a", 70000), strings.Repeat("fun a => ", 2000) + "a", "(a : " + conjunction(513) + ")"} {
			fails(t, x, text, api.Fault{Code: api.ErrNil})
		}
	}
}

// TestParseOwn: R3 and R4, two readings of one text share nothing.
func TestParseOwn(t *testing.T) {
	x := formula.New()
	text := "case (a, b) of x => fun y => x y | z => ((z : p) : q)"
	y, _ := term.Parse(x, text)
	z, _ := term.Parse(x, text)
	own(t, pair(y, z))
	spoil(y)
	parses(t, x, text, z)
}
