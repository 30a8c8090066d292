package syntax_test

import (
	"slices"
	"strings"
	"testing"

	"dictum/api"
	"dictum/formula"
	"dictum/syntax"
)

// TestPrintForms is P4.4: each form with plain parts.
func TestPrintForms(t *testing.T) {
	long := strings.Repeat("n", 31)
	x := made(t, atom("p"), bot(), join(api.KImp, 1, 1), join(api.KImp, 0, 1), join(api.KAnd, 0, 1), join(api.KOr, 1, 0), join(api.KImp, 1, 0), join(api.KImp, 2, 1), join(api.KImp, 3, 1), join(api.KImp, 1, 2), join(api.KAnd, 0, 0), atom(long))
	for id, want := range []string{"p", "false", "true", "~p", "p & false", "false | p", "false -> p", "~true", "~~p", "false -> true", "p & p", long} {
		prints(t, x, id, want)
	}
}

// TestPrintParentheses is P4.4: every form on either side of each sign, and below ~, as the chapter's list says.
func TestPrintParentheses(t *testing.T) {
	forms := map[string]string{"p": "name", "true": "name", "false": "name", "~q": "~", "~true": "~", "~~q": "~", "q & r": "&", "q | r": "|", "q -> r": "->", "false -> r": "->", "q -> true": "->"}
	enclosedLeft := map[string]string{"&": "| ->", "|": "->", "->": "->"}
	enclosedRight := map[string]string{"&": "& | ->", "|": "| ->", "->": ""}
	within := func(list, kind, s string) string {
		for k := range strings.FieldsSeq(list) {
			if k == kind {
				return "(" + s + ")"
			}
		}
		return s
	}
	for s, kind := range forms {
		for sign := range enclosedLeft {
			x := formula.New()
			prints(t, x, parsed(t, x, "("+s+") "+sign+" z"), within(enclosedLeft[sign], kind, s)+" "+sign+" z")
			prints(t, x, parsed(t, x, "z "+sign+" ("+s+")"), wholeRight(sign, s, within(enclosedRight[sign], kind, s)))
		}
		x := formula.New()
		want := "~" + within("& | ->", kind, s)
		if s == "false" {
			want = "true"
		}
		prints(t, x, parsed(t, x, "~("+s+")"), want)
	}
}

// wholeRight is z with a part on its right side; z -> false is ~z.
func wholeRight(sign, s, right string) string {
	if sign == "->" && s == "false" {
		return "~z"
	}
	return "z " + sign + " " + right
}

// TestPrintTexts is P4.4 and P4.5: these texts are written as they stand.
func TestPrintTexts(t *testing.T) {
	for _, s := range []string{
		"p & q & r", "p & (q & r)", "p | q | r", "p | (q | r)", "p -> q -> r", "(p -> q) -> r",
		"p & q | r & s", "(p | q) & (r | s)", "p | q -> r | s", "p & q -> r & s", "p | (q -> r)", "(p -> q) | r", "p & (q -> r)", "(p -> q) & r",
		"~p & ~q", "~(p & q)", "~(p | q)", "~(p -> q)", "~~~p", "~p -> ~q", "~(~p -> q)", "~~(p & q)", "p & ~(q & r)", "~(p | q) | r",
		"true -> false -> p", "(true -> p) -> false | p", "~(p -> true)", "p -> q & r | s -> p",
		"(p -> q) & (q -> p)", "~((p -> q) & (q -> p))",
	} {
		x := formula.New()
		prints(t, x, parsed(t, x, s), s)
	}
}

// TestPrintNone is P4.4: ErrForm of what is no row's number.
func TestPrintNone(t *testing.T) {
	x := made(t, atom("p"), bot(), join(api.KAnd, 0, 1))
	for _, id := range []int{-1, -2, 3, 4, api.MaxForms, 1 << 40, -1 << 63, 1<<63 - 1} {
		if s, e := syntax.Print(x, id); s != "" || e != api.ErrForm {
			t.Errorf("Print(%d): %q, error %d", id, s, e)
		}
	}
	prints(t, x, 2, "p & false")
	if s, e := syntax.Print(formula.New(), 0); s != "" || e != api.ErrForm {
		t.Errorf("Print: %q, error %d", s, e)
	}
}

// tooLong asks for ErrLong.
func tooLong(t *testing.T, x *formula.Table, id int) {
	t.Helper()
	if s, e := syntax.Print(x, id); s != "" || e != api.ErrLong {
		t.Errorf("Print(%d): %d bytes, error %d", id, len(s), e)
	}
}

// doubled are p, that joined with itself, and so on.
func doubled(t *testing.T, x *formula.Table, k api.Kind, times int) []int {
	t.Helper()
	out := []int{parsed(t, x, "p")}
	for i := range times {
		out = append(out, put(t, x, k, out[i], out[i]))
	}
	return out
}

func put(t *testing.T, x *formula.Table, k api.Kind, l, r int) int {
	t.Helper()
	id, e := x.Put(join(k, l, r))
	if e != api.OK {
		t.Fatalf("Put: error %d", e)
	}
	return id
}

// longTexts are formulas that share their parts, and whose texts have MaxText bytes, and one more.
func longTexts(t *testing.T, x *formula.Table, k api.Kind) (int, int) {
	t.Helper()
	parts := doubled(t, x, k, 13)
	id := parts[13]
	add := func(part int) int {
		if k == api.KImp {
			return put(t, x, k, part, id)
		}
		return put(t, x, k, id, part)
	}
	for left := api.MaxText - len(plainPrint(x, id)); left > 31; left = api.MaxText - len(plainPrint(x, id)) {
		for i := len(parts) - 1; i >= 0; i-- {
			if wider := add(parts[i]); len(plainPrint(x, wider)) <= api.MaxText-5 {
				id = wider
				break
			}
		}
	}
	left := api.MaxText - len(plainPrint(x, add(parts[0])))
	last := func(size int) int { return add(parsed(t, x, strings.Repeat("n", size))) }
	return last(1 + left), last(2 + left)
}

// TestPrintLong is P4.4: a text of 65536 bytes is written, one of 65537 is not, whatever sign its shared parts are joined by.
func TestPrintLong(t *testing.T) {
	for _, k := range []api.Kind{api.KAnd, api.KOr, api.KImp} {
		x := formula.New()
		fits, over := longTexts(t, x, k)
		if n, m := len(plainPrint(x, fits)), len(plainPrint(x, over)); n != 65536 || m != 65537 {
			t.Fatalf("kind %d: texts of %d and %d bytes", k, n, m)
		}
		prints(t, x, fits, plainPrint(x, fits))
		tooLong(t, x, over)
		not, _ := x.Not(fits)
		tooLong(t, x, not)
		tooLong(t, x, put(t, x, k, fits, fits))
		tooLong(t, x, put(t, x, k, over, over))
	}
}

// TestPrintFarTooLong is P4.4: what would be longer than all numbers tell is counted, not written.
func TestPrintFarTooLong(t *testing.T) {
	for _, k := range []api.Kind{api.KAnd, api.KOr, api.KImp} {
		x := formula.New()
		for i, id := range doubled(t, x, k, api.MaxForms-1) {
			if i < 14 {
				prints(t, x, id, plainPrint(x, id))
			} else {
				tooLong(t, x, id)
			}
		}
	}
}

// TestPrintDeep is P4.4: a table's longest chains, on either side.
func TestPrintDeep(t *testing.T) {
	for _, k := range []api.Kind{api.KAnd, api.KOr, api.KImp} {
		x, y := formula.New(), formula.New()
		left, right := parsed(t, x, "p"), parsed(t, y, "p")
		for range api.MaxForms - 1 {
			left, right = put(t, x, k, left, 0), put(t, y, k, 0, right)
		}
		prints(t, x, left, plainPrint(x, left))
		prints(t, y, right, plainPrint(y, right))
	}
	x := formula.New()
	id := parsed(t, x, "p")
	for range api.MaxForms - 2 {
		id, _ = x.Not(id)
	}
	prints(t, x, id, strings.Repeat("~", 1022)+"p")
}

// TestPrintLeavesTable: R3, Print puts nothing into the table, also into a full one.
func TestPrintLeavesTable(t *testing.T) {
	x := crowded(t, 0)
	rows := x.Rows()
	for id := range rows {
		prints(t, x, id, plainPrint(x, id))
	}
	if !slices.Equal(x.Rows(), rows) {
		t.Error("the table has changed")
	}
}
