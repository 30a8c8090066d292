package worlds_test

import (
	"regexp"
	"slices"
	"strconv"
	"strings"
	"testing"

	"dictum/api"
	"dictum/worlds"
)

// A plain reading of the chapter, word by word and as slow as it is.

// plainAbove tells whether a world is at most another one: a row of pairs that grows until nothing is new.
func plainAbove(rows [][]int) [][]bool {
	above := make([][]bool, len(rows))
	for a := range rows {
		above[a] = make([]bool, len(rows))
		above[a][a] = true
	}
	for grown := true; grown; {
		grown = false
		for a, row := range rows {
			for _, c := range row {
				for b := range rows {
					if above[c][b] && !above[a][b] {
						above[a][b], grown = true, true
					}
				}
			}
		}
	}
	return above
}

func plainWord(name string) bool {
	const letters = "abcdefghijklmnopqrstuvwxyzABCDEFGHIJKLMNOPQRSTUVWXYZ"
	if len(name) < 1 || len(name) > 31 || !strings.Contains(letters, name[:1]) {
		return false
	}
	for i := range len(name) {
		if !strings.Contains(letters+"0123456789_'", name[i:i+1]) {
			return false
		}
	}
	return !slices.Contains(strings.Fields("abort case false fst fun in inl inr let of snd true"), name)
}

func plainCheck(m api.Model) bool {
	n := len(m.Up)
	if n == 0 || n > 512 || len(m.Val) != n {
		return false
	}
	for _, row := range m.Up {
		for _, w := range row {
			if w < 0 || w > n-1 {
				return false
			}
		}
	}
	for _, row := range m.Val {
		for i, name := range row {
			if !plainWord(name) || i > 0 && strings.Compare(row[i-1], name) != -1 {
				return false
			}
		}
	}
	above := plainAbove(m.Up)
	for a := range n {
		for b := range n {
			if a != b && above[a][b] && above[b][a] {
				return false
			}
			if !above[a][b] {
				continue
			}
			for _, name := range m.Val[a] {
				if !slices.Contains(m.Val[b], name) {
					return false
				}
			}
		}
	}
	return true
}

// plainHeight goes through all rows of worlds that go up.
func plainHeight(above [][]bool) int {
	var longest func(last int) int
	longest = func(last int) int {
		most := 0
		for w := range above {
			if w != last && above[last][w] {
				most = max(most, longest(w))
			}
		}
		return most + 1
	}
	most := 0
	for w := range above {
		most = max(most, longest(w))
	}
	return most
}

func plainRoot(above [][]bool) (int, bool) {
	for w, row := range above {
		if !slices.Contains(row, false) {
			return w, true
		}
	}
	return 0, false
}

func plainTidy(m api.Model) api.Model {
	above, tidy := plainAbove(m.Up), clone(m)
	for a := range m.Up {
		tidy.Up[a] = nil
		for b := range m.Up {
			third := false
			for c := range m.Up {
				third = third || c != a && c != b && above[a][c] && above[c][b]
			}
			if a != b && above[a][b] && !third {
				tidy.Up[a] = append(tidy.Up[a], b)
			}
		}
	}
	return tidy
}

func plainText(m api.Model) string {
	s := ""
	for w := range m.Up {
		s += strconv.Itoa(w)
		for i, v := range m.Up[w] {
			if i == 0 {
				s += " >"
			}
			s += " " + strconv.Itoa(v)
		}
		if w < len(m.Val) && len(m.Val[w]) > 0 {
			s += " : " + strings.Join(m.Val[w], " ")
		}
		s += "\n"
	}
	return s
}

var plainLine = regexp.MustCompile(`\A(0|[1-9][0-9]*)(?: >((?: (?:0|[1-9][0-9]*))+))?(?: :((?: [A-Za-z][A-Za-z0-9_']*)+))?\z`)

// plainParse is the model of a text, or none.
func plainParse(s string) api.Model {
	var m api.Model
	if len(s) > 65536 || !strings.HasSuffix(s, "\n") {
		return m
	}
	for i, line := range strings.Split(strings.TrimSuffix(s, "\n"), "\n") {
		parts := plainLine.FindStringSubmatch(line)
		if parts == nil || parts[1] != strconv.Itoa(i) {
			return api.Model{}
		}
		var row []int
		for _, word := range strings.Fields(parts[2]) {
			w, err := strconv.Atoi(word)
			if err != nil {
				return api.Model{}
			}
			row = append(row, w)
		}
		m.Up, m.Val = append(m.Up, row), append(m.Val, strings.Fields(parts[3]))
	}
	if !plainCheck(m) {
		return api.Model{}
	}
	return m
}

// heldAgainst holds all calls on a model against the plain reading.
func heldAgainst(t *testing.T, m api.Model) {
	t.Helper()
	right := plainCheck(m)
	want := api.OK
	if !right {
		want = api.ErrModel
	}
	checked(t, m, want)
	untouched(t, m, func() {
		if s := worlds.Text(m); s != plainText(m) {
			t.Errorf("Text(%s): %q", show(m), s)
		}
		if right {
			heldRight(t, m)
		} else {
			heldWrong(t, m)
		}
		takeText(t, plainText(m), plainParse(plainText(m)))
	})
}

func heldRight(t *testing.T, m api.Model) {
	t.Helper()
	above := plainAbove(m.Up)
	for a := range m.Up {
		var want []int
		for b := range m.Up {
			if above[a][b] {
				want = append(want, b)
			}
			if got, e := worlds.Leq(m, a, b); got != above[a][b] || e != api.OK {
				t.Errorf("Leq(%s, %d, %d): %v, error %d", show(m), a, b, got, e)
			}
		}
		if got, e := worlds.Above(m, a); !slices.Equal(got, want) || e != api.OK {
			t.Errorf("Above(%s, %d): %v, error %d", show(m), a, got, e)
		}
		for _, name := range []string{"P", "p", "p'", "q", "r", "", "pq", "p q", "false"} {
			if got, e := worlds.True(m, a, name); got != slices.Contains(m.Val[a], name) || e != api.OK {
				t.Errorf("True(%s, %d, %q): %v, error %d", show(m), a, name, got, e)
			}
		}
	}
	root, is := plainRoot(above)
	if got, ok := worlds.Root(m); got != root || ok != is {
		t.Errorf("Root(%s): %d, %v", show(m), got, ok)
	}
	if got, e := worlds.Height(m); got != plainHeight(above) || e != api.OK {
		t.Errorf("Height(%s): %d, error %d", show(m), got, e)
	}
	if got, e := worlds.Tidy(m); !alike(got, plainTidy(m)) || e != api.OK {
		t.Errorf("Tidy(%s): %s, error %d", show(m), show(got), e)
	}
	takeText(t, worlds.Text(m), m)
}

// heldWrong asks that every call but Text and Parse refuses a model, whatever the numbers are.
func heldWrong(t *testing.T, m api.Model) {
	t.Helper()
	if e := worlds.Check(m); e != api.ErrModel {
		t.Errorf("Check(%s): error %d", show(m), e)
	}
	for _, w := range []int{0, len(m.Up) - 1, len(m.Up), -1, 600} {
		if got, e := worlds.Above(m, w); len(got) != 0 || e != api.ErrModel {
			t.Errorf("Above(%s, %d): %v, error %d", show(m), w, got, e)
		}
		if got, e := worlds.Leq(m, w, 0); got || e != api.ErrModel {
			t.Errorf("Leq(%s, %d, 0): %v, error %d", show(m), w, got, e)
		}
		if got, e := worlds.Leq(m, 0, w); got || e != api.ErrModel {
			t.Errorf("Leq(%s, 0, %d): %v, error %d", show(m), w, got, e)
		}
		for _, name := range []string{"p", "q", ""} {
			if got, e := worlds.True(m, w, name); got || e != api.ErrModel {
				t.Errorf("True(%s, %d, %q): %v, error %d", show(m), w, name, got, e)
			}
		}
	}
	if got, ok := worlds.Root(m); got != 0 || ok {
		t.Errorf("Root(%s): %d, %v", show(m), got, ok)
	}
	if got, e := worlds.Height(m); got != 0 || e != api.ErrModel {
		t.Errorf("Height(%s): %d, error %d", show(m), got, e)
	}
	if got, e := worlds.Tidy(m); !empty(got) || e != api.ErrModel {
		t.Errorf("Tidy(%s): %s, error %d", show(m), show(got), e)
	}
}

// TestPlainSmall: P17.1 to P17.4, every way to tell up to three worlds above each other, with every way for an atom to be true in them.
func TestPlainSmall(t *testing.T) {
	right := 0
	for many := range 4 {
		for pairs := range 1 << (many * many) {
			for val := range 1 << many {
				m := apart(many)
				for pair := range many * many {
					if pairs>>pair&1 == 1 {
						m.Up[pair/many] = append(m.Up[pair/many], pair%many)
					}
				}
				for w := range many {
					if val>>w&1 == 1 {
						m.Val[w] = names("p")
					}
				}
				heldAgainst(t, m)
				if plainCheck(m) {
					right++
				}
			}
		}
	}
	if right < 500 {
		t.Errorf("only %d were well-formed", right)
	}
}

// TestPlainByChance: P17.1 to P17.4, models of up to nine worlds, of which many are not well-formed.
func TestPlainByChance(t *testing.T) {
	r := newChance(1)
	count := map[bool]int{}
	for range 6000 {
		m := anyModel(r, 5)
		if r.IntN(2) == 0 {
			m = rightModel(r, 9)
		}
		heldAgainst(t, m)
		count[plainCheck(m)]++
	}
	if count[true] < 1000 || count[false] < 1000 {
		t.Error(count)
	}
}

// TestPlainSpoilt: P17.1, well-formed models with one thing of them changed.
func TestPlainSpoilt(t *testing.T) {
	r := newChance(2)
	count := map[bool]int{}
	for range 6000 {
		m := clone(rightModel(r, 7))
		w, v := r.IntN(len(m.Up)), r.IntN(len(m.Up))
		switch r.IntN(6) {
		case 0:
			m.Up[w] = append(m.Up[w], v)
		case 1:
			m.Up[w] = append(m.Up[w], noWorlds(len(m.Up))[r.IntN(13)])
		case 2:
			m.Val[w] = append(m.Val[w], []string{"p", "r", "Q", "", "1", "let", "q q"}[r.IntN(7)])
		case 3:
			m.Val[w] = m.Val[w][:len(m.Val[w])/2]
		case 4:
			slices.Reverse(m.Val[w])
		default:
			if m.Val = append(m.Val, nil); r.IntN(2) == 0 {
				m.Val = m.Val[:w]
			}
		}
		heldAgainst(t, m)
		count[plainCheck(m)]++
	}
	if count[true] < 500 || count[false] < 2000 {
		t.Error(count)
	}
}
