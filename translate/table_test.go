package translate_test

import (
	"testing"

	"dictum/api"
	"dictum/formula"
)

// writes asks for the term of that text of the last one of steps.
func writes(t *testing.T, f *formula.Table, text string, steps ...api.Step) {
	t.Helper()
	gives(t, f, steps, len(steps)-1, readTerm(t, f, text))
}

// TestRuleBot: P15.3, abort m.
func TestRuleBot(t *testing.T) {
	f := rowsOf(t, "p", "false", "p -> false")
	writes(t, f, "abort h1", proved(seq(0, 1), api.RuleBot, 1))
	writes(t, f, "abort h1", proved(seq(2, 0, 1, 2), api.RuleBot, 1))
	writes(t, f, "abort h1", proved(seq(1, 1), api.RuleBot, 1)) // where RuleId would do, too
	sizes(t, f, []api.Step{proved(seq(0, 1), api.RuleBot, 1)}, 0, 2, 2)
}

// TestRuleId: P15.3, m.
func TestRuleId(t *testing.T) {
	f := rowsOf(t, "p", "false", "p -> false", "p | false")
	for id := range f.Len() {
		steps := []api.Step{proved(seq(id, 0, 1, 2, 3), api.RuleId, id)}
		gives(t, f, steps, 0, v([]string{"h0", "h1", "h2", "h3"}[id]))
		sizes(t, f, steps, 0, 1, 1)
	}
	big := filled(t, f.Rows(), api.MaxForms)
	gives(t, big, []api.Step{proved(seq(1023, 1023), api.RuleId, 1023)}, 0, v("h1023"))
}

// TestRuleAndL: P15.3, let A = fst m in let B = snd m in T.
func TestRuleAndL(t *testing.T) {
	f := rowsOf(t, "p", "q", "q & p", "q & q", "(q & q) & q")
	writes(t, f, "let h1 = fst h2 in let h0 = snd h2 in h0", proved(seq(0, 0, 1), api.RuleId, 0), proved(seq(0, 2), api.RuleAndL, 2, 0))
	writes(t, f, "let h1 = fst h3 in let h1 = snd h3 in h1", proved(seq(1, 1), api.RuleId, 1), proved(seq(1, 3), api.RuleAndL, 3, 0))
	writes(t, f, "let h3 = fst h4 in let h1 = snd h4 in let h1 = fst h3 in let h1 = snd h3 in h1",
		proved(seq(1, 1), api.RuleId, 1), proved(seq(1, 1, 3), api.RuleAndL, 3, 0), proved(seq(1, 4), api.RuleAndL, 4, 1))
	sizes(t, f, []api.Step{proved(seq(1, 1), api.RuleId, 1), proved(seq(1, 3), api.RuleAndL, 3, 0)}, 1, 7, 4)
}

// TestRuleImpAtom: P15.3, let B = m p in T.
func TestRuleImpAtom(t *testing.T) {
	f := rowsOf(t, "q", "p", "p -> q", "p -> p")
	writes(t, f, "let h0 = h2 h1 in h0", proved(seq(0, 0, 1), api.RuleId, 0), proved(seq(0, 1, 2), api.RuleImpAtom, 2, 0))
	writes(t, f, "let h1 = h3 h1 in h1", proved(seq(1, 1), api.RuleId, 1), proved(seq(1, 1, 3), api.RuleImpAtom, 3, 0))
	sizes(t, f, []api.Step{proved(seq(1, 1), api.RuleId, 1), proved(seq(1, 1, 3), api.RuleImpAtom, 3, 0)}, 1, 5, 3)
}

// TestRuleImpBot: P15.3, T itself, however many such steps there are.
func TestRuleImpBot(t *testing.T) {
	f := rowsOf(t, "false", "p", "false -> p", "false -> false", "p | p")
	steps := []api.Step{
		proved(seq(1, 1), api.RuleId, 1),
		proved(seq(4, 1), api.RuleOrR2, 4, 0),
		proved(seq(4, 1, 3), api.RuleImpBot, 3, 1),
		proved(seq(4, 1, 2, 3), api.RuleImpBot, 2, 2),
		proved(seq(1, 1, 2), api.RuleImpBot, 2, 0),
		proved(seq(4, 1, 2), api.RuleOrR1, 4, 4),
	}
	for at, text := range []string{"h1", "inr h1", "inr h1", "inr h1", "h1", "inl h1"} {
		gives(t, f, steps, at, readTerm(t, f, text))
	}
}

// TestRuleImpAnd: P15.3, let F = ((fun C => fun D => m (C, D)) : F) in T; F is C -> (D -> B).
func TestRuleImpAnd(t *testing.T) {
	f := rowsOf(t, "r", "q", "p", "p & q", "p & q -> r", "q -> r", "p -> (q -> r)", "p -> r", "q -> (p -> r)")
	writes(t, f, "let h6 = (fun h2 => fun h1 => h4 (h2, h1) : p -> q -> r) in h6",
		proved(seq(6, 6), api.RuleId, 6), proved(seq(6, 4), api.RuleImpAnd, 4, 0))
	f = rowsOf(t, "p", "q", "p -> q", "p -> (p -> q)", "p & p", "p & p -> q") // F ahead of m, C as D
	steps := []api.Step{proved(seq(3, 3), api.RuleId, 3), proved(seq(3, 5), api.RuleImpAnd, 5, 0)}
	writes(t, f, "let h3 = (fun h0 => fun h0 => h5 (h0, h0) : p -> p -> q) in h3", steps...)
	sizes(t, f, steps, 1, 10, 7)
}

// TestRuleImpOr: P15.3, let F = ((fun C => m (inl C)) : F) in let G = ((fun D => m (inr D)) : G) in T; F is C -> B, G is D -> B.
func TestRuleImpOr(t *testing.T) {
	f := rowsOf(t, "p", "q", "r", "q | p", "q | p -> r", "p -> r", "q -> r", "r -> p", "p -> q")
	writes(t, f, "let h6 = (fun h1 => h4 (inl h1) : q -> r) in let h5 = (fun h0 => h4 (inr h0) : p -> r) in h6",
		proved(seq(6, 5, 6), api.RuleId, 6), proved(seq(6, 4), api.RuleImpOr, 4, 0))
	f = rowsOf(t, "p", "q", "p -> q", "p | p", "p | p -> q") // F ahead of m, C as D
	steps := []api.Step{proved(seq(2, 2), api.RuleId, 2), proved(seq(2, 4), api.RuleImpOr, 4, 0)}
	writes(t, f, "let h2 = (fun h0 => h4 (inl h0) : p -> q) in let h2 = (fun h0 => h4 (inr h0) : p -> q) in h2", steps...)
	sizes(t, f, steps, 1, 15, 7)
}

// TestRuleImpR: P15.3, fun A => T.
func TestRuleImpR(t *testing.T) {
	f := rowsOf(t, "q", "p", "p -> q", "q -> (p -> q)")
	steps := []api.Step{proved(seq(0, 0, 1), api.RuleId, 0), proved(seq(2, 0), api.RuleImpR, 2, 0), proved(seq(3), api.RuleImpR, 3, 1)}
	writes(t, f, "fun h0 => fun h1 => h0", steps...)
	sizes(t, f, steps, 1, 2, 2)
	sizes(t, f, steps, 2, 3, 3)
	writes(t, f, "fun h1 => h0", proved(seq(0, 0, 1), api.RuleId, 0), proved(seq(2, 0, 1), api.RuleImpR, 2, 0)) // p stands there already
}

// TestRuleAndR: P15.3, (T1, T2), also of one step twice, and of two steps of one sequent.
func TestRuleAndR(t *testing.T) {
	f := rowsOf(t, "p", "q", "q & p", "p & p", "(p & p) & q", "p & (q & p)", "false")
	p, q := proved(seq(0, 0, 1), api.RuleId, 0), proved(seq(1, 0, 1), api.RuleId, 1)
	writes(t, f, "(h1, h0)", p, q, proved(seq(2, 0, 1), api.RuleAndR, 2, 1, 0))
	writes(t, f, "(h0, h0)", p, q, proved(seq(3, 0, 1), api.RuleAndR, 3, 0, 0))
	writes(t, f, "((h0, h0), h1)", p, q, proved(seq(3, 0, 1), api.RuleAndR, 3, 0, 0), proved(seq(4, 0, 1), api.RuleAndR, 4, 2, 1))
	writes(t, f, "(h0, (h1, h0))", p, q, proved(seq(2, 0, 1), api.RuleAndR, 2, 1, 0), proved(seq(5, 0, 1), api.RuleAndR, 5, 0, 2))
	sizes(t, f, []api.Step{p, q, proved(seq(2, 0, 1), api.RuleAndR, 2, 1, 0), proved(seq(5, 0, 1), api.RuleAndR, 5, 0, 2)}, 3, 5, 3)
	one, two := proved(seq(0, 0, 6), api.RuleId, 0), proved(seq(0, 0, 6), api.RuleBot, 6)
	writes(t, f, "(h0, abort h6)", one, two, proved(seq(3, 0, 6), api.RuleAndR, 3, 0, 1))
	writes(t, f, "(abort h6, h0)", one, two, proved(seq(3, 0, 6), api.RuleAndR, 3, 1, 0))
}

// TestRuleOrL: P15.3, case m of A => T1 | B => T2.
func TestRuleOrL(t *testing.T) {
	f := rowsOf(t, "p", "q", "q | p", "p | q", "p | p")
	steps := []api.Step{
		proved(seq(1, 1), api.RuleId, 1),
		proved(seq(3, 1), api.RuleOrR2, 3, 0),
		proved(seq(0, 0), api.RuleId, 0),
		proved(seq(3, 0), api.RuleOrR1, 3, 2),
		proved(seq(3, 2), api.RuleOrL, 2, 1, 3),
	}
	writes(t, f, "case h2 of h1 => inr h1 | h0 => inl h0", steps...)
	sizes(t, f, steps, 4, 6, 3)
	writes(t, f, "case h4 of h0 => h0 | h0 => h0", proved(seq(0, 0), api.RuleId, 0), proved(seq(0, 4), api.RuleOrL, 4, 0, 0))
}

// TestRuleOrR: P15.3, inl T, inr T.
func TestRuleOrR(t *testing.T) {
	f := rowsOf(t, "p", "q", "p | q", "p | p")
	p, q := proved(seq(0, 0, 1), api.RuleId, 0), proved(seq(1, 0, 1), api.RuleId, 1)
	writes(t, f, "inl h0", p, q, proved(seq(2, 0, 1), api.RuleOrR1, 2, 0))
	writes(t, f, "inr h1", p, q, proved(seq(2, 0, 1), api.RuleOrR2, 2, 1))
	writes(t, f, "inl h0", p, q, proved(seq(3, 0, 1), api.RuleOrR1, 3, 0))
	writes(t, f, "inr h0", p, q, proved(seq(3, 0, 1), api.RuleOrR2, 3, 0))
	sizes(t, f, []api.Step{p, q, proved(seq(2, 0, 1), api.RuleOrR2, 2, 1)}, 2, 2, 2)
}

// TestRuleImpImp: P15.3, let B = m (let F = ((fun D => m (fun C => D)) : F) in T1) in T2; F is D -> B.
func TestRuleImpImp(t *testing.T) {
	f := rowsOf(t, "r", "q", "p", "p -> q", "(p -> q) -> r", "q -> r", "p -> r", "q -> p", "r -> q")
	steps := []api.Step{
		proved(seq(1, 1, 2, 5), api.RuleId, 1),
		proved(seq(3, 1, 5), api.RuleImpR, 3, 0),
		proved(seq(0, 0, 1), api.RuleId, 0),
		proved(seq(0, 1, 4), api.RuleImpImp, 4, 1, 2),
	}
	writes(t, f, "let h0 = h4 (let h5 = (fun h1 => h4 (fun h2 => h1) : q -> r) in fun h2 => h1) in h0", steps...)
	sizes(t, f, steps, 3, 13, 8)
	f = rowsOf(t, "p", "q", "p -> q", "p -> p", "(p -> p) -> q") // F ahead of m, C as D
	writes(t, f, "let h1 = h4 (let h2 = (fun h0 => h4 (fun h0 => h0) : p -> q) in fun h0 => h0) in h1",
		proved(seq(0, 0, 2), api.RuleId, 0),
		proved(seq(3, 2), api.RuleImpR, 3, 0),
		proved(seq(1, 1), api.RuleId, 1),
		proved(seq(1, 4), api.RuleImpImp, 4, 1, 2))
}

// TestAmongOthers: P15.2, any step that is proved, wherever it stands, and whatever stands behind it; steps that are refuted stand in nobody's way.
func TestAmongOthers(t *testing.T) {
	f := rowsOf(t, "p", "q", "p | q", "p -> q", "p & p")
	steps := []api.Step{
		stuck(seq(0)),
		proved(seq(0, 0), api.RuleId, 0),
		stuck(seq(1)),
		proved(seq(2, 0), api.RuleOrR1, 2, 1),
		stuck(seq(2), 0, 2),
		proved(seq(0, 0, 1), api.RuleId, 0),
		proved(seq(4, 0), api.RuleAndR, 4, 1, 1),
		stuck(seq(1, 0)),
		refuted(seq(3), api.RuleImpR, 3, 7),
	}
	for at, text := range map[int]string{1: "h0", 3: "inl h0", 5: "h0", 6: "(h0, h0)"} {
		gives(t, f, steps, at, readTerm(t, f, text))
	}
	for _, at := range []int{0, 2, 4, 7, 8} {
		refuses(t, f, steps, at, api.ErrArg)
	}
}
