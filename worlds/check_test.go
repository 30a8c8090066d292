package worlds_test

import (
	"math"
	"slices"
	"strconv"
	"strings"
	"testing"

	"dictum/api"
	"dictum/worlds"
)

// bothWays asks of a model that it is not well-formed, and that every call but Text and Parse says so.
func bothWays(t *testing.T, m api.Model) {
	t.Helper()
	checked(t, m, api.ErrModel)
	untouched(t, m, func() { heldWrong(t, m) })
}

// TestCheckHowMany: P17.1, from 1 to 512 worlds.
func TestCheckHowMany(t *testing.T) {
	bothWays(t, api.Model{})
	bothWays(t, api.Model{Up: [][]int{}, Val: [][]string{}})
	for _, many := range []int{1, 2, 63, 64, 65, 511, 512} {
		checked(t, apart(many), api.OK)
		checked(t, chain(many), api.OK)
	}
	for _, many := range []int{513, 514, 1024, 5000} {
		bothWays(t, apart(many))
		bothWays(t, chain(many))
	}
}

// TestCheckRowsOfVal: P17.1, as many rows of Val as worlds, whatever stands in them.
func TestCheckRowsOfVal(t *testing.T) {
	for _, many := range []int{1, 2, 3, 64, 512} {
		for _, rows := range []int{0, 1, many - 1, many + 1, 512, 513} {
			m := chain(many)
			m.Val = make([][]string, rows)
			if rows == many {
				checked(t, m, api.OK)
			} else {
				bothWays(t, m)
			}
		}
	}
	bothWays(t, api.Model{Val: [][]string{{}}})
	bothWays(t, api.Model{Val: [][]string{{"p"}, {"p"}}})
	bothWays(t, api.Model{Up: [][]int{{}}})
	bothWays(t, with(up(to()), "p", "p"))
}

// TestCheckNumbers: P17.1, what stands in Up are worlds' numbers, at every place.
func TestCheckNumbers(t *testing.T) {
	for _, many := range []int{1, 2, 5, 512} {
		for _, bad := range noWorlds(many) {
			for _, w := range []int{0, many / 2, many - 1} {
				for _, row := range [][]int{to(bad), to(bad, w), to(w, bad), to(w, w, bad, w)} {
					m := chain(many)
					m.Up[w] = row
					bothWays(t, m)
				}
			}
		}
	}
	for _, w := range []int{0, 1, 63, 64, 300, 511} {
		m := apart(512)
		m.Up[w] = to(511)
		checked(t, m, api.OK)
		m.Up[w] = to(512)
		bothWays(t, m)
	}
}

// TestCheckItself: P17.1, a world may tell itself, and tell others as often as it likes, in any order.
func TestCheckItself(t *testing.T) {
	for _, m := range []api.Model{
		up(to(0)), up(to(0, 0, 0)), up(to(0), to(1), to(2)), up(to(1, 0, 1), to(1)), up(to(2, 1, 0), to(2), to(2, 2)), up(to(), to(0), to(1, 0)), up(to(2), to(), to(1)),
		with(up(to(0)), "p"), with(up(to(0, 1), to(1)), "p", "p"), with(up(to(), to(0)), "p", ""),
	} {
		checked(t, m, api.OK)
	}
}

// TestCheckRound: P17.1, no two worlds are each above the other one, however far it is round, wherever the round begins and however it is left.
func TestCheckRound(t *testing.T) {
	for _, far := range []int{2, 3, 4, 7, 63, 64, 65, 128, 511, 512} {
		for _, many := range []int{far, min(far+3, 512)} {
			for _, last := range []int{many - 1, far - 1} {
				m := chain(many)
				m.Up[last] = append(m.Up[last], last-far+1)
				bothWays(t, m)
				m.Up[last] = append(to(last), m.Up[last]...)
				bothWays(t, m)
			}
		}
	}
	for _, m := range []api.Model{
		up(to(1), to(0)), up(to(1, 0), to(1, 0)), up(to(), to(2), to(1)), up(to(1), to(2), to(1)), up(to(2), to(2), to(1)), up(to(1, 2), to(), to(0)),
		up(to(1, 2), to(3), to(3), to(4, 2), to()), up(to(3), to(0), to(1), to(2)), up(to(), to(3), to(1), to(2, 0)),
	} {
		bothWays(t, m)
	}
}

// TestCheckNoRound: P17.1, worlds that are reached by several ways are not above each other for that.
func TestCheckNoRound(t *testing.T) {
	for _, m := range []api.Model{
		diamond(), up(to(1, 2), to(3), to(3), to()), up(to(1, 2, 3), to(2, 3), to(3), to()), up(to(3, 2, 1), to(3, 2), to(3), to()), up(to(), to(0), to(0), to(1, 2)),
		up(to(2), to(2), to(3, 4), to(5), to(5), to()), up(to(1), to(), to(1)), up(to(), to(0, 2), to(0)),
	} {
		checked(t, m, api.OK)
	}
}

// TestCheckNames: P17.1, each name is one of layer 3's.
func TestCheckNames(t *testing.T) {
	for _, name := range []string{"p", "P", "z", "Z", "p0", "p_", "p'", "x9'_", "aborts", "False", "TRUE", "i", "lets", "caseof", strings.Repeat("a", 30), strings.Repeat("a", 31)} {
		checked(t, api.Model{Up: [][]int{{}}, Val: [][]string{{name}}}, api.OK)
	}
	bad := strings.Fields("abort case false fst fun in inl inr let of snd true 1 0p _p 'p ~p p&q p-q p.q p! é pé p\u0301 _ ' > : | [ ` { @ p[ p` p{ p@")
	bad = append(bad, "", " ", "p ", " p", "p q", "p\n", "\np", "p\x00", "\x00", "\xff", "p\xff", "p\x80", strings.Repeat("a", 32), strings.Repeat("a", 33), strings.Repeat("a", 70000))
	for _, name := range bad {
		bothWays(t, api.Model{Up: [][]int{{}}, Val: [][]string{{name}}})
		bothWays(t, api.Model{Up: [][]int{{}, {}, {}}, Val: [][]string{{"p"}, {}, {name}}})
		row := names("a", name, "z")
		slices.Sort(row)
		bothWays(t, api.Model{Up: [][]int{{}}, Val: [][]string{row}})
	}
}

// TestCheckRising: P17.1, names rise strictly, as bytes.
func TestCheckRising(t *testing.T) {
	long := strings.Repeat("a", 30)
	for _, row := range []string{"a,b", "B,a", "Z,a", "A,B,a,b", "p,p'", "p,p0", "p',p0", "p,p_", "p0,p_", "p_,pa", "p9,pA", "pZ,p_", "a10,a9", "p,pp,ppp", "aZ,aa", long + "," + long + "a", "a,aa,ab,b"} {
		m := with(up(to()), row)
		checked(t, m, api.OK)
		slices.Reverse(m.Val[0])
		bothWays(t, m)
	}
	for _, row := range []string{"p,p", "p,q,q", "p,p,q", "p,q,p", "q,p", "a,B", "p0,p'", "a9,a10", "b,a,c", "a,c,b", "p,q,r,s,s"} {
		bothWays(t, with(up(to()), row))
		bothWays(t, with(up(to(), to(), to()), "p", row, "p"))
		bothWays(t, with(up(to(), to(), to()), "p", "", row))
	}
}

// TestCheckStaysTrue: P17.1, what is true in a world is true in every world above it.
func TestCheckStaysTrue(t *testing.T) {
	for _, m := range []api.Model{
		with(up(to(1), to()), "", "p"), with(up(to(1), to()), "p", "p"), with(up(to(1), to()), "p", "p,q"), with(up(to(1), to()), "q", "p,q"), with(up(to(), to()), "p", ""), with(up(to(), to()), "p", "q"),
		with(up(to(1), to(2), to()), "", "p", "p"), with(up(to(), to(0)), "p", ""), with(up(to(2, 1), to(), to(1)), "b", "a,b,c,d", "b,d"), with(up(to(1), to()), "a,c,e", "a,b,c,d,e,f"),
	} {
		checked(t, m, api.OK)
	}
	for _, m := range []api.Model{
		with(up(to(1), to()), "p", ""), with(up(to(1), to()), "p", "q"), with(up(to(1), to()), "p,q", "p"), with(up(to(1), to()), "p,q", "q"), with(up(to(1), to()), "p,q,r", "p,r"), with(up(to(1), to()), "q", "p"), with(up(to(1), to()), "p", "P"), with(up(to(1), to()), "p", "p'"), with(up(to(1), to()), "p'", "p"),
		with(up(to(1), to(2), to()), "p", "p", ""), with(up(to(1), to(2), to()), "", "p", ""), with(up(to(1), to(2), to()), "p", "", "p"), with(up(to(1, 2), to(), to()), "p", "p", ""), with(up(to(1, 2), to(), to()), "p", "", "p"), with(up(to(), to(0)), "", "p"),
		with(up(to(2, 1), to(), to(1)), "b", "a,b", "b,d"), with(up(to(0, 1), to(1)), "p", "q"), with(up(to(1), to()), "a,c,e", "a,b,c,d,f"), with(up(to(1), to()), "a,c,e", "b,c,d,e,f"), with(up(to(1), to()), "a,c,e", "a,b,d,e,f"),
	} {
		bothWays(t, m)
	}
}

// TestCheckStaysTrueFar: P17.1, far up, too: a name that is lost at one step of many, wherever that is and in whichever order the worlds stand.
func TestCheckStaysTrueFar(t *testing.T) {
	r := newChance(3)
	for range 40 {
		many := 2 + r.IntN(120)
		place := r.Perm(many)
		m, at := apart(many), r.IntN(many)
		for i := range many {
			m.Val[place[i]] = names("a", "q")
			if i+1 < many {
				m.Up[place[i]] = to(place[i+1])
			}
		}
		checked(t, m, api.OK)
		m.Val[place[at]] = names("a", "p")
		if at == 0 && many > 1 {
			bothWays(t, m)
		}
		m.Val[place[at]] = names("a", "p", "q")
		if at == many-1 {
			checked(t, m, api.OK)
		} else {
			bothWays(t, m)
		}
		m.Val[place[at]] = names("q")
		if at == 0 {
			checked(t, m, api.OK)
		} else {
			bothWays(t, m)
		}
	}
}

// TestCheckLong: P17.1, rows that say one thing again and again, and worlds in which much is true, take no long time.
func TestCheckLong(t *testing.T) {
	m := chain(3)
	var many []string
	for i := range 20000 {
		many = append(many, "p"+strconv.Itoa(100000+i))
	}
	for w := range m.Up {
		m.Val[w] = many
		for range 100000 {
			m.Up[w] = append(m.Up[w], max(w, 1), 2)
		}
	}
	checked(t, m, api.OK)
	m.Val[2] = many[:len(many)-1]
	checked(t, m, api.ErrModel)
}

// TestArg: P17.1, a number that is no world's is refused of a well-formed model alone, each of two.
func TestArg(t *testing.T) {
	for _, m := range []api.Model{apart(1), diamond(), chain(5), chain(512)} {
		many := len(m.Up)
		untouched(t, m, func() {
			for _, bad := range noWorlds(many) {
				if l, e := worlds.Above(m, bad); len(l) != 0 || e != api.ErrArg {
					t.Errorf("Above %d: %v, error %d", bad, l, e)
				}
				for _, w := range []int{0, many - 1, bad, -1, math.MaxInt} {
					if ok, e := worlds.Leq(m, bad, w); ok || e != api.ErrArg {
						t.Errorf("Leq %d, %d: %v, error %d", bad, w, ok, e)
					}
					if ok, e := worlds.Leq(m, w, bad); ok || e != api.ErrArg {
						t.Errorf("Leq %d, %d: %v, error %d", w, bad, ok, e)
					}
				}
				for _, name := range []string{"p", "", "1"} {
					if ok, e := worlds.True(m, bad, name); ok || e != api.ErrArg {
						t.Errorf("True %d, %q: %v, error %d", bad, name, ok, e)
					}
				}
			}
			for _, w := range []int{0, many - 1} {
				if l, e := worlds.Above(m, w); len(l) == 0 || e != api.OK {
					t.Errorf("Above %d: %v, error %d", w, l, e)
				}
				if ok, e := worlds.Leq(m, w, w); !ok || e != api.OK {
					t.Errorf("Leq %d, %d: %v, error %d", w, w, ok, e)
				}
			}
		})
	}
}
