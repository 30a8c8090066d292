package interp_test

import (
	"slices"
	"testing"

	"dictum/api"
	"dictum/formula"
	"dictum/interp"
)

// calls are all calls that take a formula and a name.
func calls() map[string]func(x *formula.Table, id int, name string) (int, bool, api.Errno) {
	return map[string]func(x *formula.Table, id int, name string) (int, bool, api.Errno){
		"Exists": func(x *formula.Table, id int, name string) (int, bool, api.Errno) {
			k, e := interp.Exists(x, id, name)
			return k, false, e
		},
		"Forall": func(x *formula.Table, id int, name string) (int, bool, api.Errno) {
			k, e := interp.Forall(x, id, name)
			return k, false, e
		},
		"Beth": interp.Beth,
	}
}

// refuses asks that all calls of a formula and a name answer an error, and nothing else.
func refuses(t *testing.T, x *formula.Table, id int, name string, want api.Errno) {
	t.Helper()
	for call, of := range calls() {
		if k, ok, e := of(x, id, name); k != 0 || ok || e != want {
			t.Errorf("%s of %d, %q: %d, %v, error %d, not %d", call, id, name, k, ok, e, want)
		}
	}
}

// refusesCraig asks that Craig answers an error, and nothing else.
func refusesCraig(t *testing.T, x *formula.Table, a, b int, want api.Errno) {
	t.Helper()
	if id, e := interp.Craig(x, a, b); id != 0 || e != want {
		t.Errorf("Craig of %d, %d: %d, error %d, not %d", a, b, id, e, want)
	}
}

// TestUnmade: R1, tables that no call made are refused ahead of anything else.
func TestUnmade(t *testing.T) {
	for _, x := range []*formula.Table{nil, {}} {
		for _, id := range append(noForms(0), 0, 1) {
			for _, name := range append(noNames(), "p", "q") {
				refuses(t, x, id, name, api.ErrNil)
			}
			for _, b := range append(noForms(0), 0, 1) {
				refusesCraig(t, x, id, b, api.ErrNil)
			}
		}
		if x.Len() != 0 {
			t.Error(x.Len())
		}
	}
}

// TestNoForm: numbers that are no row's are refused ahead of names that are none.
func TestNoForm(t *testing.T) {
	for _, x := range []*formula.Table{formula.New(), made(t, atom("p")), made(t, atom("p"), atom("q"), join(api.KAnd, 0, 1))} {
		untouched(t, x, func() {
			for _, id := range noForms(x.Len()) {
				for _, name := range append(noNames(), "p", "q") {
					refuses(t, x, id, name, api.ErrForm)
				}
				refusesCraig(t, x, id, id, api.ErrForm)
				for b := range x.Len() {
					refusesCraig(t, x, id, b, api.ErrForm)
					refusesCraig(t, x, b, id, api.ErrForm)
				}
			}
		})
	}
}

// TestCutForm: a row that is cut off is none.
func TestCutForm(t *testing.T) {
	x := formula.New()
	id := read(t, x, "p & q")
	x.Cut(id)
	refuses(t, x, id, "p", api.ErrForm)
	refusesCraig(t, x, id, 0, api.ErrForm)
	refusesCraig(t, x, 0, id, api.ErrForm)
}

// TestNoName: names that are none are refused.
func TestNoName(t *testing.T) {
	x := formula.New()
	ids := []int{read(t, x, "p & (p -> q)"), read(t, x, "false"), read(t, x, "q"), read(t, x, "true")}
	untouched(t, x, func() {
		for _, id := range ids {
			for _, name := range noNames() {
				refuses(t, x, id, name, api.ErrAtom)
			}
		}
	})
}

// TestBethNoAtom: P25.3, an atom that the formula does not have is refused, whether the table has it or not, and whether the formula is true or false.
func TestBethNoAtom(t *testing.T) {
	x := formula.New()
	read(t, x, "p")
	for _, text := range []string{"false", "true", "q", "q & ~q", "q -> q", "r & (q -> s)"} {
		id := read(t, x, text)
		untouched(t, x, func() {
			for _, name := range []string{"p", "u", "P", "p'", "q'", "qq"} {
				if k, ok, e := interp.Beth(x, id, name); k != 0 || ok || e != api.ErrAtom {
					t.Error(text, name, k, ok, e)
				}
			}
		})
	}
}

// TestOverOtherNames: P25.2, an atom that the formula does not have is none that is refused.
func TestOverOtherNames(t *testing.T) {
	for _, all := range either() {
		for _, name := range []string{"r", "P", "p'", "pp"} {
			x := formula.New()
			id := read(t, x, "p & (p -> q)")
			k, e := over(all)(x, id, name)
			if e != api.OK || slices.Contains(names(x, k), name) {
				t.Error(name, k, e)
			}
			same(t, x, k, "p & q")
		}
	}
}

// TestLongNames: names of 31 bytes are names, and one more byte is too many.
func TestLongNames(t *testing.T) {
	long := "pqrstuvwxyzPQRSTUVWXYZ01234567'"
	if len(long) != api.MaxName {
		t.Fatal(len(long))
	}
	x := formula.New()
	id := read(t, x, long+" & ("+long+" -> q)")
	k, e := interp.Exists(x, id, long)
	if e != api.OK {
		t.Fatal(e)
	}
	same(t, x, k, "q")
	refuses(t, x, id, long+"8", api.ErrAtom)
	if k, ok, e := interp.Beth(x, id, long); !ok || e != api.OK || slices.Contains(names(x, k), long) {
		t.Error(k, ok, e)
	}
}

// TestCraigRefuted: P25.1, what is not proved has nothing between, and the table gets nothing, whatever the search has put.
func TestCraigRefuted(t *testing.T) {
	for _, c := range [][2]string{
		{"p", "q"},
		{"p | q", "p & q"},
		{"~~p", "p"},
		{"true", "p | ~p"},
		{"(p -> q) -> p", "p"},
		{"(p & q -> r) & p", "r"},
		{"((p -> q) -> r) & ((q -> r) -> p)", "q"},
		{"(p | q -> r) & (r -> s)", "p -> u"},
	} {
		x := formula.New()
		a, b := read(t, x, c[0]), read(t, x, c[1])
		untouched(t, x, func() { refusesCraig(t, x, a, b, api.ErrInterp) })
	}
}
