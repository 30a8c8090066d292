package logics_test

import (
	"strconv"
	"strings"
	"testing"

	"dictum/api"
	"dictum/logics"
)

// shape is an order with what fits it, by hand: the logics but BDn, and the height.
type shape struct {
	name   string
	m      api.Model
	fits   string
	height int
}

// shapes are orders that keep each row of the chapter's table, and such as nearly do.
func shapes() []shape {
	fork := up(to(1, 2), nil, nil)
	return []shape{
		{"one", apart(1), "CL LC KC KP SM", 1},
		{"one that tells itself", up(to(0, 0)), "CL LC KC KP SM", 1},
		{"two apart", apart(2), "CL LC KC KP SM", 1},
		{"seven apart", apart(7), "CL LC KC KP SM", 1},
		{"two in a row", line(2), "LC KC KP SM", 2},
		{"two in a row and one", beside(apart(1), line(2)), "LC KC KP SM", 2},
		{"three in a row", line(3), "LC KC KP", 3},
		{"three in a row and one", beside(apart(1), line(3)), "LC KC KP", 3},
		{"eight in a row", line(8), "LC KC KP", 8},
		{"two below one", upsideDown(fork), "LC KC KP SM", 2},
		{"two below two in a row", up(to(2), to(2), to(3), nil), "LC KC KP", 3},
		{"a fork", fork, "KP", 2},
		{"a fork and one", beside(apart(1), fork), "KP", 2},
		{"a fork above one", up(to(1), to(2, 3), nil, nil), "KP", 3},
		{"a fork with a longer way", up(to(1, 3), to(2), nil, nil), "KP", 3},
		{"a fork of three", rooted(apart(3)), "", 2},
		{"a fork of three above one", rooted(rooted(apart(3))), "", 3},
		{"a diamond", rooted(topped(apart(2))), "KC KP", 3},
		{"a diamond above one", rooted(rooted(topped(apart(2)))), "KC KP", 4},
		{"a diamond below one", rooted(topped(topped(apart(2)))), "KC KP", 4},
		{"three between", rooted(topped(apart(3))), "KC KP", 3},
		{"a diamond with a longer way", up(to(1, 3), to(2), to(4), to(4), nil), "KC KP", 4},
		{"two below two", up(to(2, 3), to(2, 3), nil, nil), "KP", 2},
		{"two below two, one below", rooted(up(to(2, 3), to(2, 3), nil, nil)), "KP", 3},
		{"two below two, one above", topped(up(to(2, 3), to(2, 3), nil, nil)), "KC KP", 3},
		{"two below three", up(to(2, 3, 4), to(2, 3, 4), nil, nil, nil), "", 2},
		// A zigzag: 0 below 2 and 3, 1 below 3 and 4. Each fork alone is one of two.
		{"a zigzag", up(to(2, 3), to(3, 4), nil, nil, nil), "KP", 2},
		{"a zigzag above one", rooted(up(to(2, 3), to(3, 4), nil, nil, nil)), "", 3}, // above 2 and 4 there is no world of their own
		// Three ends with a world below each two of them, and one below all.
		{"three ends, each two joined", up(nil, nil, nil, to(0, 1), to(0, 2), to(1, 2), to(3, 4, 5)), "KP", 3},
		{"three ends, one two not joined", up(nil, nil, nil, to(0, 1), to(0, 2), to(4, 3)), "", 3},
		// The world that joins 1 and 2 is there, but beside 0 and not above it.
		{"joined beside", up(to(1, 2, 3), nil, nil, nil, to(1, 2)), "", 2},
		{"joined beside, alone", up(to(1, 2), nil, nil, to(1, 2)), "KP", 2},
		// The world above d that is above neither is no end.
		{"a longer way above d", up(to(1, 2, 3), nil, nil, to(1)), "KP", 3},
		{"a longer way above d to both", up(to(1, 2, 3), nil, nil, to(1, 2)), "KP", 3},
		{"a longer way to another end", up(to(1, 2, 3), nil, nil, to(4, 1), nil), "", 3},
		// b and c are no ends themselves.
		{"below two ends, joined above one", up(to(1, 2), to(3), to(4, 3), nil, nil), "KP", 3},
		{"two forks above one", up(to(1, 2), to(3, 4), to(5, 6), nil, nil, nil, nil), "", 3},
		{"a full tree's part", up(to(1, 2), to(3, 4), nil, nil, nil), "", 3},
		{"two with one end each", up(to(1, 2), to(3), to(4), nil, nil), "KP", 3},
		{"as SM on one side", beside(line(2), line(3)), "LC KC KP", 3},
		{"LC and not", beside(line(2), fork), "KP", 2},
		{"KP and not", beside(fork, rooted(apart(3))), "", 2},
		{"KC and not", beside(rooted(topped(apart(2))), fork), "KP", 3},
		{"nine in a row", line(9), "LC KC KP", 9},
		{"ten in a row", line(10), "LC KC KP", 10},
	}
}

// byName are the logics by the names that shapes have for them.
func byName() map[string]api.Logic {
	return map[string]api.Logic{"CL": api.LogicCL, "LC": api.LogicLC, "KC": api.LogicKC, "KP": api.LogicKP, "SM": api.LogicSM}
}

// heldShape asks what fits of a model that has that order.
func heldShape(t *testing.T, s shape, m api.Model) {
	t.Helper()
	unturned(t, m, func() {
		for name, k := range byName() {
			want := strings.Contains(" "+s.fits+" ", " "+name+" ")
			if is, e := logics.Fits(m, k, 0); is != want || e != api.OK {
				t.Errorf("%s: Fits(%s, %s): %v, error %d, not %v", s.name, show(m), name, is, e, want)
			}
		}
		for n := 1; n <= api.MaxBound; n++ {
			if is, e := logics.Fits(m, api.LogicBD, n); is != (s.height <= n) || e != api.OK {
				t.Errorf("%s: Fits(%s, BD%d): %v, error %d", s.name, show(m), n, is, e)
			}
		}
	})
}

// TestFitsShapes: P24.2, orders by hand, in each logic.
func TestFitsShapes(t *testing.T) {
	for _, s := range shapes() {
		heldShape(t, s, s.m)
	}
}

// TestFitsNumbers: P24.2, how the worlds are numbered does not matter.
func TestFitsNumbers(t *testing.T) {
	chance := newChance(9)
	for _, s := range shapes() {
		for range 20 {
			heldShape(t, s, reordered(s.m, len(s.m.Up), chance.Perm(len(s.m.Up))))
		}
	}
}

// TestFitsRows: P24.2, how the rows tell the order does not matter: worlds told several times, themselves, all that are above.
func TestFitsRows(t *testing.T) {
	for _, s := range shapes() {
		above := plainAbove(s.m.Up)
		m := apart(len(s.m.Up))
		for a := range m.Up {
			for range 3 {
				for b := len(m.Up) - 1; b >= 0; b-- {
					if above[a][b] {
						m.Up[a] = append(m.Up[a], b)
					}
				}
			}
		}
		heldShape(t, s, m)
	}
}

// TestFitsVal: P24.2, what is true in the worlds does not matter, as long as the model is well-formed.
func TestFitsVal(t *testing.T) {
	for _, s := range shapes() {
		above := plainAbove(s.m.Up)
		for w := range s.m.Up {
			m := cloneModel(s.m)
			for v := range m.Up {
				m.Val[v] = []string{"a"}
				if above[w][v] {
					m.Val[v] = append(m.Val[v], "p")
				}
				m.Val[v] = append(m.Val[v], "q"+strconv.Itoa(0))
			}
			heldShape(t, s, m)
			m.Val[0] = []string{"z", "a"}
			refusesFits(t, m, api.LogicKP, 0, api.ErrModel)
		}
	}
}
