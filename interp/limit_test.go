package interp_test

import (
	"slices"
	"strconv"
	"testing"

	"dictum/api"
	"dictum/formula"
	"dictum/interp"
	"dictum/search"
)

// visits are how many sequents the search between two formulas enters, and how many rows there are behind it.
func visits(t *testing.T, x *formula.Table, a, b int) (int, int) {
	t.Helper()
	y := x.Copy()
	f, e := search.Run(y, seq(b, a), api.MaxVisits)
	if e != api.OK || !f.Proved {
		t.Fatal(f.Proved, e)
	}
	return f.Visits, y.Len()
}

// TestCraigHundred: P25.1, where the search enters just 100 sequents, and there are just 400 rows behind it, there is an answer.
func TestCraigHundred(t *testing.T) {
	t.Parallel()
	for most := 90; most <= 100; most++ {
		x := formula.New()
		a, b := all(19)
		l, r := put(t, x, a), put(t, x, b)
		for i := 0; ; i++ {
			if n, _ := visits(t, x, l, r); n >= most {
				break
			}
			l, _ = x.And(l, put(t, x, numbered("z", i)))
		}
		_, behind := visits(t, x, l, r)
		fill(x, x.Len()+400-behind)
		if n, behind := visits(t, x, l, r); n > 100 || behind != 400 {
			t.Fatal(n, behind)
		}
		if !holdCraig(t, x, l, r) {
			t.Error(most)
		}
	}
}

// TestCraigNew: P25.1, the rows that the search itself makes count, and are not kept.
func TestCraigNew(t *testing.T) {
	x := formula.New()
	a := read(t, x, "(p & q & r -> s) & (p | p' -> u) & p")
	b := read(t, x, "q & r -> s & u | v")
	fill(x, 380)
	if _, rows := visits(t, x, a, b); rows <= 380 || rows > 400 {
		t.Fatal(rows)
	}
	if !holdCraig(t, x, a, b) || x.Len() > 390 {
		t.Error(x.Len())
	}
}

// TestCraigLarge: P25.1, beyond the limits ErrInterp may be answered, but nothing that is wrong.
func TestCraigLarge(t *testing.T) {
	t.Parallel()
	for _, n := range []int{30, 60} {
		for _, two := range []func(n int) (*tree, *tree){all, zigzag} {
			x := formula.New()
			a, b := two(n)
			l, r := put(t, x, a), put(t, x, b)
			holdCraig(t, x, l, r)
			fill(x, 1000)
			holdCraig(t, x, l, r)
			fill(x, api.MaxForms)
			holdCraig(t, x, l, r)
		}
	}
	for _, n := range []int{3, 4} {
		x := formula.New()
		a, b := holes(n)
		holdCraig(t, x, put(t, x, a), put(t, x, b))
		x = formula.New()
		a, b = twice(n)
		holdCraig(t, x, put(t, x, a), put(t, x, b))
	}
}

// TestCraigBudget: P25.1, ErrBudget where the search enters too many sequents, or a formula of it has no room.
func TestCraigBudget(t *testing.T) {
	x := formula.New()
	a, b := holes(5)
	l, r := put(t, x, a), put(t, x, b)
	if want, _ := asksCraig(x, l, r); want != api.ErrBudget {
		t.Fatal(want)
	}
	untouched(t, x, func() { refusesCraig(t, x, l, r, api.ErrBudget) })

	for _, text := range [][2]string{
		{"(p & q -> r) & p", "q -> r"},   // proved, if there were room
		{"(p & q -> r) & p", "q"},        // refuted, if there were room
		{"(p | q -> r) & p", "s -> r"},   // two rows
		{"((q -> p) -> r) & p", "r | s"}, // one row
	} {
		x := formula.New()
		a, b := read(t, x, text[0]), read(t, x, text[1])
		y := x.Copy()
		search.Run(y, seq(b, a), api.MaxVisits)
		more := y.Len() - x.Len()
		if more == 0 {
			t.Fatal(text)
		}
		for free := range more {
			y := x.Copy()
			fill(y, api.MaxForms-free)
			untouched(t, y, func() { refusesCraig(t, y, a, b, api.ErrBudget) })
		}
		fill(x, api.MaxForms-more)
		holdCraig(t, x, a, b)
	}
}

// TestFullTables: what needs no row has room in a full table, and an answer for which there is none is ErrInterp.
func TestFullTables(t *testing.T) {
	t.Parallel()
	chance := newChance(7)
	for i := range 300 {
		x := formula.New()
		id := put(t, x, someTree(chance, 2+chance.IntN(6), []string{"p", "p", "q", "r"}))
		b := put(t, x, someTree(chance, 2+chance.IntN(6), []string{"q", "r", "s"}))
		fill(x, api.MaxForms-i%4)
		holdCraig(t, x, id, b)
		for call, of := range calls() {
			y := x.Copy()
			var e api.Errno
			var k int
			kept(t, y, func() { k, _, e = of(y, id, "p") })
			if e != api.OK && (y.Len() != x.Len() || k != 0) {
				t.Fatal(call, show(x, id), k, e)
			}
			switch {
			case e == api.ErrInterp:
			case e == api.ErrAtom && call == "Beth":
			case e != api.OK:
				t.Fatal(call, show(x, id), e)
			case call == "Exists" && !proves(y, k, id), call == "Forall" && !proves(y, id, k):
				t.Fatal(call, show(x, id), show(y, k))
			}
		}
	}
}

// TestHundredRows: P25.2 and P25.3, with just 100 rows ErrInterp is not answered.
func TestHundredRows(t *testing.T) {
	chance := newChance(8)
	seven := ofSize(7)
	for range 200 {
		x := formula.New()
		id := put(t, x, seven[chance.IntN(len(seven))])
		nine, e := x.Imp(id, put(t, x, leaf([]string{"p", "q", "u", "false"}[chance.IntN(4)])))
		if e != api.OK {
			t.Fatal(e)
		}
		fill(x, 100)
		for _, all := range either() {
			holdOver(t, x.Copy(), id, all)
		}
		for _, name := range names(x, nine) {
			holdBeth(t, x.Copy(), nine, name)
		}
	}
}

// TestLarge: P25.2 and P25.3, beyond the limits ErrInterp may be answered, but nothing that is wrong, and the table stays as it was then.
func TestLarge(t *testing.T) {
	t.Parallel()
	chance := newChance(9)
	refused := map[string]int{}
	for range 100 {
		x := formula.New()
		fill(x, chance.IntN(500))
		id := put(t, x, someTree(chance, 8+chance.IntN(30), []string{"p", "p", "q", "r", "s"}))
		for call, of := range calls() {
			y := x.Copy()
			k, ok, e := of(y, id, "p")
			if e != api.OK {
				refused[call]++
				untouched(t, y, func() { of(y, id, "p") })
				if k != 0 || ok || y.Len() != x.Len() || e != api.ErrInterp && !(call == "Beth" && e == api.ErrAtom) {
					t.Fatal(call, show(x, id), k, ok, e)
				}
				continue
			}
			if call == "Exists" && !proves(y, k, id) || call == "Forall" && !proves(y, id, k) {
				t.Fatal(call, show(x, id), show(y, k))
			}
		}
	}
	if refused["Exists"]+refused["Forall"] > 20 {
		t.Error(refused)
	}
}

// TestNoRoomForPart: P25.2, where the formulas of which the answer is made do not all fit, ErrInterp, and none of them stays.
func TestNoRoomForPart(t *testing.T) {
	for free := range 12 {
		for _, all := range either() {
			x := formula.New()
			text := "((p -> q1) -> r1) & ((p -> q2) -> r2) & (s -> p)"
			if all {
				text = "((p -> q1) -> r1) -> ((p -> q2) -> r2) -> p & s | q3"
			}
			id := read(t, x, text)
			fill(x, api.MaxForms-free)
			k, e := over(all)(x, id, "p")
			if e == api.ErrInterp && k == 0 && x.Len() == api.MaxForms-free {
				continue
			}
			if free < 2 || e != api.OK {
				t.Error(free, k, e, x.Len())
			}
		}
	}
}

// deep is a formula of so many levels.
func deep(t *testing.T, x *formula.Table, levels int) int {
	t.Helper()
	id := put(t, x, leaf("p"))
	for i := range levels {
		q := put(t, x, leaf("q"+strconv.Itoa(i%7)))
		var e api.Errno
		if i%2 == 0 {
			id, e = x.Imp(id, q)
		} else {
			id, e = x.Or(q, id)
		}
		if e != api.OK {
			t.Fatal(e)
		}
	}
	return id
}

// TestDeep: R1, every call ends at tables as deep as they get.
func TestDeep(t *testing.T) {
	t.Parallel()
	for _, levels := range []int{20, 100, 400, 1010} {
		x := formula.New()
		id := deep(t, x, levels)
		for call, of := range calls() {
			y := x.Copy()
			if _, _, e := of(y, id, "p"); e != api.OK && (e != api.ErrInterp || y.Len() != x.Len()) {
				t.Error(call, levels, e)
			}
		}
		holdCraig(t, x, id, id)
		holdCraig(t, x, 0, id)
	}
}

// TestDoubled: R1, every call ends at formulas that are made of themselves again and again, so that they are larger than what can be counted.
func TestDoubled(t *testing.T) {
	for _, k := range kinds() {
		x := formula.New()
		id := read(t, x, "p -> q | p")
		for range 300 {
			next, e := x.Put(join(k, id, id))
			if e != api.OK {
				t.Fatal(e)
			}
			id = next
		}
		for call, of := range calls() {
			y := x.Copy()
			if _, _, e := of(y, id, "p"); e != api.OK && (e != api.ErrInterp || y.Len() != x.Len()) {
				t.Error(call, k, e)
			}
		}
		if k != api.KImp {
			holdCraig(t, x, 0, id)
		}
	}
}

// TestOverFull: P25.2, formulas of which there is no room for all that has to be looked at: ErrInterp, or what is nearest.
func TestOverFull(t *testing.T) {
	t.Parallel()
	for _, c := range []struct {
		all  bool
		text string
	}{
		{false, "r | q -> r | ((q -> p | p | ~s -> ~(p -> ~p)) -> p | q) -> (p | p -> s -> ~q) -> p"},
		{true, "~((~(q -> ~p) -> (r -> p) | (q | ~p & p) & (~s & ~q) | s) -> ~(q | (p -> q) -> ~(q -> p)) & (~(p -> s -> ~r) -> q))"},
		{false, "~((r | q) & (r & q | s & p) & (q & q) & (~r | ~((r -> s | (p -> false & p)) -> p | s | (p | q))))"},
		{false, "~((s & (p | s) -> ((~q -> p) -> ~p & p | ((q -> p) -> r) & p) | r) & ((s | false -> s) & p & ~p))"},
		{false, "~(~((~s -> r) & (~r | p)) -> p & ~s) & ((p -> s) | ~q -> ~((p -> p) & (~p | q) & ((r -> r) & r)))"},
		{true, "~(~(p & p) & ~p -> q | r | ~(((~p -> r) -> ~(p -> q) & (~p | s | (p | s))) & ~s & ((false -> p) & ~(~(s & p) -> p))))"},
	} {
		x := formula.New()
		id := read(t, x, c.text)
		rows := x.Rows()
		k, e := over(c.all)(x, id, "p")
		if e == api.ErrInterp {
			if k != 0 || !slices.Equal(x.Rows(), rows) {
				t.Error(c.text, k, x.Rows())
			}
			continue
		}
		if e != api.OK {
			t.Fatal(c.text, e)
		}
		holdNearest(t, x, id, holdOver(t, x, id, c.all), c.all, without(3, []string{"q", "r", "s"}))
	}
}

// TestOverOwn: P25.2, a formula that does not have the atom is answered itself, however large it is and however little room there is.
func TestOverOwn(t *testing.T) {
	x := formula.New()
	id := put(t, x, leaf("q"))
	for x.Len() < api.MaxForms {
		id, _ = x.Put(join(kinds()[x.Len()%3], id, x.Len()/2))
	}
	untouched(t, x, func() {
		for _, all := range either() {
			if k, e := over(all)(x, id, "p"); k != id || e != api.OK {
				t.Error(k, e)
			}
		}
	})
}

// TestBethFull: P25.3, where the search does not end, or there is no room for what it needs, ErrInterp, and not that nothing is defined.
func TestBethFull(t *testing.T) {
	ors := ""
	for i := range 12 {
		ors += " & (a" + strconv.Itoa(i) + " | b" + strconv.Itoa(i) + ")"
	}
	x := formula.New()
	id := read(t, x, "((q -> r) -> p) & (p -> (q -> r))"+ors)
	untouched(t, x, func() {
		if k, ok, e := interp.Beth(x, id, "p"); k != 0 || ok || e != api.ErrInterp {
			t.Error(k, ok, e)
		}
	})

	for _, text := range []string{"(q -> p) & (p -> q)", "((q -> r) -> p) & (p -> (q -> r))"} {
		for free := range 5 {
			x := formula.New()
			put(t, x, leaf("z"))
			id := read(t, x, text)
			for x.Len() < api.MaxForms-free {
				id, _ = x.And(id, put(t, x, numbered("z", x.Len())))
			}
			rows := x.Rows()
			k, ok, e := interp.Beth(x, id, "p")
			if e != api.ErrInterp && !(ok && e == api.OK) || e != api.OK && (k != 0 || ok || !slices.Equal(rows, x.Rows())) {
				t.Error(text, free, k, ok, e)
			}
		}
	}
}
