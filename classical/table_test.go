package classical_test

import (
	"slices"
	"strings"
	"testing"

	"dictum/api"
	"dictum/classical"
	"dictum/formula"
)

// TestTableKnown: P22.1, tables written out: the atoms by bytes, the first one's value changing first.
func TestTableKnown(t *testing.T) {
	for _, c := range []struct{ text, names, values string }{
		{"p", "p", "01"},
		{"false", "", "0"},
		{"true", "", "1"},
		{"~true", "", "0"},
		{"false & true", "", "0"},
		{"false | true", "", "1"},
		{"true -> false", "", "0"},
		{"false -> false", "", "1"},
		{"~p", "p", "10"},
		{"p -> p", "p", "11"},
		{"p & ~p", "p", "00"},
		{"p & q", "p q", "0001"},
		{"p | q", "p q", "0111"},
		{"p -> q", "p q", "1011"},
		{"q -> p", "p q", "1101"},
		{"p <-> q", "p q", "1001"},
		{"q", "q", "01"},
		{"q & (p -> p)", "p q", "0011"},
		{"p & (q -> q)", "p q", "0101"},
		{"r & (q -> p) & (p -> q)", "p q r", "00001001"},
		{"p & ~q & r", "p q r", "00000100"},
		{"~p & q & ~r", "p q r", "00100000"},
		{"(p -> q) -> r", "p q r", "01001111"},
		{"p -> q -> r", "p q r", "11101111"},
		{"s & (p -> p) & (q -> q) & (r -> r)", "p q r s", "0000000011111111"},
		{"a -> B", "B a", "1101"},
		{"P & ~p", "P p", "0100"},
		{"p' & ~p & ~p0", "p p' p0", "00100000"},
		{"p0 & ~p' & ~p", "p p' p0", "00001000"},
		{"p10 -> p9", "p10 p9", "1011"},
		{"p_ & ~p9 & ~pa", "p9 p_ pa", "00100000"},
		{"pp & ~p", "p pp", "0010"},
	} {
		x := formula.New()
		names, values, e := heldTable(t, x, read(t, x, c.text))
		if strings.Join(names, " ") != c.names || digits(values) != c.values || e != api.OK {
			t.Errorf("%s: %v, %s, error %d, not %s, %s", c.text, names, digits(values), e, c.names, c.values)
		}
	}
}

// TestTableOwnAtoms: P22.1, only the formula's own atoms have rows, whatever else stands in the table, and wherever.
func TestTableOwnAtoms(t *testing.T) {
	x := made(t, atom("z"), atom("b"), and(0, 1), atom("c"), bot(), atom("a"), imp(5, 1), or(6, 4), imp(3, 3))
	for id, c := range []struct{ names, values string }{
		{"z", "01"}, {"b", "01"}, {"b z", "0001"}, {"c", "01"}, {"", "0"}, {"a", "01"}, {"a b", "1011"}, {"a b", "1011"}, {"c", "11"},
	} {
		names, values, e := heldTable(t, x, id)
		if strings.Join(names, " ") != c.names || digits(values) != c.values || e != api.OK {
			t.Errorf("%d: %v, %s, error %d", id, names, digits(values), e)
		}
	}
}

// small are all tables of these rows and up to so many joined of them and one another behind them.
func small(rows []api.Node, more int, each func(rows []api.Node)) {
	each(rows)
	if more == 0 {
		return
	}
	for kind := api.KAnd; kind <= api.KImp; kind++ {
		for l := range rows {
			for r := range rows {
				if n := join(kind, l, r); !slices.Contains(rows, n) {
					small(append(slices.Clone(rows), n), more-1, each)
				}
			}
		}
	}
}

// TestTableSmall: P22.1, the last formula of all small tables, and it against the one ahead of it.
func TestTableSmall(t *testing.T) {
	all := 0
	small([]api.Node{atom("b"), bot(), atom("a")}, 2, func(rows []api.Node) {
		x := made(t, rows...)
		heldTable(t, x, len(rows)-1)
		heldEqual(t, x, len(rows)-1, len(rows)-2)
		all++
	})
	if all < 1200 {
		t.Error(all)
	}
}

// TestTableChance: P22.1, formulas by chance.
func TestTableChance(t *testing.T) {
	chance := newChance(1)
	got := map[int]int{}
	for range 1500 {
		x := made(t, someRows(chance, 2+chance.IntN(60), 1+chance.IntN(30), 1+chance.IntN(8))...)
		_, values, e := heldTable(t, x, x.Len()-1-chance.IntN(min(5, x.Len())))
		if e != api.OK {
			t.Fatal(e)
		}
		switch {
		case !slices.Contains(values, false):
			got[1]++
		case slices.Contains(values, true):
			got[0]++
		default:
			got[-1]++
		}
	}
	if got[-1] < 50 || got[0] < 300 || got[1] < 100 {
		t.Error(got)
	}
}

// TestAlwaysKnown: P22.1, formulas that every row makes true, and those of which the least row that does not is known.
func TestAlwaysKnown(t *testing.T) {
	for _, text := range alwaysTexts() {
		x := formula.New()
		id := read(t, x, text)
		heldTable(t, x, id)
		if is, n, e := classical.Always(x, id); !is || n != 0 || e != api.OK {
			t.Errorf("%s: %v, %d, error %d", text, is, n, e)
		}
	}
	for text, want := range map[string]int{"p": 0, "false": 0, "~p": 1, "p -> q": 1, "q -> p": 2, "~(p & q)": 3, "p & q -> r": 3, "~(p & q & r)": 7, "p | q": 0, "~p | q | ~r": 5, "p <-> q": 1, "~(p & ~p) & q": 0} {
		x := formula.New()
		id := read(t, x, text)
		heldTable(t, x, id)
		if is, n, e := classical.Always(x, id); is || n != want || e != api.OK {
			t.Errorf("%s: %v, %d, error %d, not %d", text, is, n, e, want)
		}
	}
}

// TestTableAgain: R4 and R8, what was asked ahead turns nothing; where rows are cut off and given anew, it is the new ones that are told.
func TestTableAgain(t *testing.T) {
	x, ids := readAll(t, "p | ~p", "p -> q", "p & q -> r")
	for range 3 {
		for _, id := range ids {
			heldTable(t, x, id)
			heldEqual(t, x, id, ids[0])
		}
		classical.Table(x, x.Len())
		classical.Always(nil, 0)
	}
	x.Cut(2)
	refuses(t, x, ids[1], api.ErrForm)
	x.Atom("s")
	or, _ := x.Or(0, 2)
	if names, values, _ := heldTable(t, x, or); !slices.Equal(names, []string{"p", "s"}) || digits(values) != "0111" {
		t.Error(names, values)
	}
}
