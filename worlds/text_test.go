package worlds_test

import (
	"math"
	"slices"
	"strings"
	"testing"

	"dictum/api"
	"dictum/worlds"
)

// TestText: P17.4, models that are well-formed, and their texts, which are read again.
func TestText(t *testing.T) {
	for _, c := range []struct {
		m    api.Model
		want string
	}{
		{apart(1), "0\n"}, {up(to(0)), "0 > 0\n"}, {with(up(to()), "p"), "0 : p\n"}, {with(up(to(0)), "p"), "0 > 0 : p\n"}, {with(up(to(0, 0)), "P,p,p'"), "0 > 0 0 : P p p'\n"},
		{apart(2), "0\n1\n"}, {chain(3), "0 > 1\n1 > 2\n2\n"}, {diamond(), "0 > 1 2\n1 > 3 : p\n2 > 3 : p\n3 : p q\n"}, {up(to(), to(0), to(1, 0, 1)), "0\n1 > 0\n2 > 1 0 1\n"},
		{chain(12), "0 > 1\n1 > 2\n2 > 3\n3 > 4\n4 > 5\n5 > 6\n6 > 7\n7 > 8\n8 > 9\n9 > 10\n10 > 11\n11\n"}, {with(up(to(1), to()), "a_1'", "a_1',b"), "0 > 1 : a_1'\n1 : a_1' b\n"},
	} {
		untouched(t, c.m, func() {
			if s := worlds.Text(c.m); s != c.want {
				t.Errorf("Text(%s): %q", show(c.m), s)
			}
		})
		takeText(t, c.want, c.m)
	}
}

// TestTextOfAny: P17.4, any model has a Text: none of those is well-formed.
func TestTextOfAny(t *testing.T) {
	for _, c := range []struct {
		m    api.Model
		want string
	}{
		{api.Model{}, ""}, {api.Model{Val: [][]string{{"p"}, {}}}, ""}, {api.Model{Up: [][]int{{}, {0}}}, "0\n1 > 0\n"}, {api.Model{Up: [][]int{{1}, {}}, Val: [][]string{{"p"}}}, "0 > 1 : p\n1\n"},
		{api.Model{Up: [][]int{{1}}, Val: [][]string{{"p"}, {"p", "q"}}}, "0 > 1 : p\n"}, {up(to(1), to(0)), "0 > 1\n1 > 0\n"}, {up(to(-1, 7, -20, math.MaxInt, math.MinInt)), "0 > -1 7 -20 9223372036854775807 -9223372036854775808\n"},
		{api.Model{Up: [][]int{{}, {}}, Val: [][]string{{"q", "p", "p"}, {"", " ", "1", "let", "\xff", "a b\nc", ":", ">"}}}, "0 : q p p\n1 :    1 let \xff a b\nc : >\n"}, {api.Model{Up: [][]int{{}}, Val: [][]string{{""}}}, "0 : \n"},
	} {
		checked(t, c.m, api.ErrModel)
		untouched(t, c.m, func() {
			if s := worlds.Text(c.m); s != c.want {
				t.Errorf("Text(%s): %q", show(c.m), s)
			}
		})
	}
	if s := worlds.Text(apart(600)); strings.Count(s, "\n") != 600 || !strings.HasSuffix(s, "\n598\n599\n") {
		t.Errorf("%d bytes", len(s))
	}
}

// TestParseRefused: P17.4, texts that are no Text of a well-formed model.
func TestParseRefused(t *testing.T) {
	for _, s := range []string{
		"", "\n", "0", "0\n\n", "\n0\n", "0\n1", "0\r\n", "0\n1\r\n", "0\x00\n", "0\n\x00", "\ufeff0\n", // ends
		"1\n", "1\n0\n", "0\n0\n", "0\n2\n", "0\n1\n3\n", "00\n", "0\n01\n", "+0\n", "-0\n", "-1\n", "0\n+1\n", "a\n", "p\n", "x\n1\n", "٠\n", // numbers of worlds
		" 0\n", "0 \n", "0  > 0\n", "0 >  0\n", "0 > 0 \n", "0\t> 0\n", "0 >\t0\n", "0 > 0\t0\n", "0> 0\n", "0 >0\n", "0 > 0\u00a0\n", "0 > 0 > 0\n", "0 > 0 : p > 0\n", "0 > 0 >\n", "0 > : p\n", // blanks and signs
		"0 >\n", "0 > \n", "0 :\n", "0 : \n", "0 > :\n", "0 > 0 :\n", "0 > 0 : \n", "0 : p : q\n", "0 : p :\n", "0 :: p\n", "0 : : p\n", "0 : p > 0\n", "0: p\n", "0 :p\n", "0 : p \n", "0 :  p\n", "0 : p  q\n", "0 : p,q\n", "0 : p\tq\n", "0 : p\u2003q\n",
		"0 > 1\n", "0 > -1\n", "0 > 512\n", "0 > 00\n", "0 > 01\n1\n", "0 > +1\n1\n", "0 > 1.\n1\n", "0 > p\n", "0 > 0 p\n", "0 > 1\n1 > 2\n", "0 > 4294967296\n", "0 > 18446744073709551616\n", "0 > 99999999999999999999999\n", "0 > 0x0\n", "0 > ０\n", // numbers in Up
		"0 : 1\n", "0 : let\n", "0 : true\n", "0 : p-q\n", "0 : p q p\n", "0 : q p\n", "0 : p p\n", "0 : é\n", "0 : _\n", "0 : " + strings.Repeat("a", 32) + "\n", "0 : p\xff\n", "0 : \xff\n", "0 : ~p\n", "0 : a B\n", // names
		"0 > 1\n1 > 0\n", "0 > 1\n1 > 2\n2 > 0\n", "0 > 1 : p\n1\n", "0 > 1 : p\n1 : q\n", "0 > 1\n1 > 2 : p\n2\n", "0\n1 > 0 : p\n", // orders
		"0 > 1 : p q\n1 : p\n", "# a comment\n0\n", "0 # a comment\n", "0 > 1, 2\n1\n2\n", "0\n1\n ", "0\n1\nx", "0\n1\n2 >", "0\n1\n2 : p", "0;1\n", "0\v1\n", "0\f\n", "0\u2028", "0\u0085",
	} {
		takeText(t, s, api.Model{})
	}
}

// TestParseMany: P17.4, 512 worlds are taken, 513 are not.
func TestParseMany(t *testing.T) {
	for _, many := range []int{511, 512} {
		takeText(t, plainText(apart(many)), apart(many))
		takeText(t, plainText(chain(many)), chain(many))
	}
	takeText(t, plainText(apart(513)), api.Model{})
	takeText(t, plainText(chain(513)), api.Model{})
	takeText(t, plainText(apart(12000)), api.Model{})
}

// TestParseLong: P17.4, a text of 65536 bytes is taken, one of a byte more is not, though it is a Text.
func TestParseLong(t *testing.T) {
	for _, extra := range []int{-2, -1, 0, 1, 2, 3, 1000, 100000} {
		m := with(chain(2), "", strings.Repeat("a", 11-extra&1)) // a byte more or less, as a number has two
		for range (65536 + extra - len(plainText(m))) / 2 {
			m.Up[0] = append(m.Up[0], 1)
		}
		s := worlds.Text(m)
		if len(s) != 65536+extra {
			t.Fatalf("%d bytes, not 65536 and %d", len(s), extra)
		}
		checked(t, m, api.OK)
		if extra > 0 {
			takeText(t, s, api.Model{})
		} else {
			takeText(t, s, m)
		}
	}
	takeText(t, strings.Repeat("\n", 65536), api.Model{})
	takeText(t, strings.Repeat("0 : p\n", 10000), api.Model{})
	takeText(t, "0"+strings.Repeat(" > 0", 16000)+"\n", api.Model{})
	takeText(t, "0 :"+strings.Repeat(" p", 30000)+"\n", api.Model{})
}

// TestParseIsNew: R3, what Parse answers is the caller's own, and no two of its rows share memory.
func TestParseIsNew(t *testing.T) {
	const s = "0 > 1 2 : p\n1 > 2 : p q\n2 : p q r\n"
	m, _ := worlds.Parse(s)
	want := clone(m)
	for w := range m.Up {
		_, _ = append(m.Up[w], 7, 8, 9), append(m.Val[w], "x", "y", "z")
	}
	if !alike(m, want) {
		t.Error(show(m))
	}
	for w := range m.Up {
		slices.Reverse(m.Up[w])
		for i := range m.Val[w] {
			m.Val[w][i] += "!"
		}
	}
	for w := range m.Val {
		for i, name := range m.Val[w] {
			if name != want.Val[w][i]+"!" {
				t.Error(m.Val)
			}
		}
	}
	takeText(t, s, want)
}

// TestParseShort: P17.4, every text of up to six of some bytes, alone and behind a line, is taken just if it is the text of a well-formed model.
func TestParseShort(t *testing.T) {
	const bytes = "01 >:p\n"
	taken := 0
	var walk func(s string, left int)
	walk = func(s string, left int) {
		want := plainParse(s)
		takeText(t, s, want)
		if !empty(want) {
			taken++
		}
		for i := 0; left > 0 && i < len(bytes); i++ {
			walk(s+bytes[i:i+1], left-1)
		}
	}
	walk("", 6)
	for _, line := range []string{"0\n", "0 > 1\n", "0 : p\n", "0 > 1 : p\n"} {
		walk(line, 6)
	}
	if taken < 10 {
		t.Errorf("only %d texts were taken", taken)
	}
}

// TestParseNearly: P17.4, a model's text with a byte changed, put in or left out, or lines changed with one another, by chance.
func TestParseNearly(t *testing.T) {
	r := newChance(5)
	count := map[bool]int{}
	for range 8000 {
		s := []byte(plainText(rightModel(r, 12)))
		at := r.IntN(len(s))
		c := "0123456789 >:pqP'\n\n \t-,\xff"[r.IntN(24)]
		switch r.IntN(5) {
		case 0:
			s[at] = c
		case 1:
			s = slices.Insert(s, at, c)
		case 2:
			s = slices.Delete(s, at, at+1)
		case 3:
			s = s[:at]
		default:
			lines := strings.SplitAfter(string(s), "\n")
			i, j := r.IntN(len(lines)), r.IntN(len(lines))
			lines[i], lines[j] = lines[j], lines[i]
			s = []byte(strings.Join(lines, ""))
		}
		want := plainParse(string(s))
		takeText(t, string(s), want)
		count[empty(want)]++
	}
	if count[true] < 1000 || count[false] < 500 {
		t.Error(count)
	}
}
