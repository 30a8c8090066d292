package bits_test

import (
	"math/rand/v2"
	"strconv"
	"strings"
	"testing"

	"dictum/api"
	"dictum/bits"
)

// plainParse reads a text as loosely as may be, and takes it just if it is the text of what was read.
func plainParse(s string) (api.Bits, api.Errno) {
	var p plain
	for _, run := range strings.Split(s, ",") {
		if s == "" {
			break
		}
		ends := strings.Split(run, "-")
		first, err := strconv.Atoi(ends[0])
		last, err2 := strconv.Atoi(ends[len(ends)-1])
		if err != nil || err2 != nil || first < 0 || last >= api.MaxForms {
			return api.Bits{}, api.ErrBits
		}
		for n := first; n <= last; n++ {
			p[n] = true
		}
	}
	if p.text() != s {
		return api.Bits{}, api.ErrBits
	}
	return p.row(), api.OK
}

// TestText: P5.4, written out, at the borders of the words and of the row.
func TestText(t *testing.T) {
	for _, c := range []struct {
		l    []int
		want string
	}{
		{nil, ""}, {[]int{0}, "0"}, {[]int{9}, "9"}, {[]int{10}, "10"}, {[]int{100}, "100"}, {[]int{1023}, "1023"},
		{[]int{0, 1}, "0-1"}, {[]int{0, 2}, "0,2"}, {[]int{1022, 1023}, "1022-1023"}, {[]int{1021, 1023}, "1021,1023"},
		{[]int{63, 64}, "63-64"}, {[]int{63, 65}, "63,65"}, {[]int{62, 63, 64, 65}, "62-65"}, {[]int{127, 128, 130}, "127-128,130"},
		{[]int{5, 3, 4, 1, 9}, "1,3-5,9"}, {[]int{0, 1, 2, 3, 1020, 1021, 1022, 1023}, "0-3,1020-1023"},
		{span(0, 1023).list(), "0-1023"}, {span(10, 900).list(), "10-900"},
	} {
		b := set(t, c.l...)
		if s := bits.Text(b); s != c.want {
			t.Errorf("Text of %v: %s", c.l, s)
		}
		if got, e := bits.Parse(c.want); got != b || e != api.OK {
			t.Errorf("Parse(%s): %v, error %d", c.want, got, e)
		}
	}
}

// TestTextOfSamples: P5.4, Text as its words say it, and Parse of every such text.
func TestTextOfSamples(t *testing.T) {
	l := samples()
	for _, first := range borders() { // and each run between two borders
		for _, last := range borders() {
			if first <= last {
				l = append(l, span(first, last))
			}
		}
	}
	for n := range api.MaxForms { // and each set with one number or all but one
		without := span(0, 1023)
		without[n] = false
		l = append(l, plainOf(n), without)
	}
	for i, p := range l {
		b := p.row()
		s := bits.Text(b)
		if s != p.text() {
			t.Errorf("sample %d: %s", i, s)
		}
		if got, e := bits.Parse(s); got != b || e != api.OK {
			t.Errorf("sample %d: Parse(%s): %v, error %d", i, s, got, e)
		}
		if b != p.row() {
			t.Errorf("sample %d: the row became %v", i, b)
		}
	}
}

// TestParseRefused: P5.4, what Text does not answer, each with the empty set beside the error.
func TestParseRefused(t *testing.T) {
	for _, s := range []string{
		"2,1", "5,4-6", "1,1", "3-5,1", "3-5,4", "3-5,5", "3-5,2-9", "1023,0", // falling, or once more
		"0-1,2", "0,1", "0,1-2", "0-1,2-3", "63,64", "0-63,64", "1022,1023", // touching the run ahead
		"3-3", "0-0", "1023-1023", "5-3", "1-0", "64-63", // a run of one, a run that falls
		"01", "00", "0-01", "00-1", "1,02", "010-20", "10-020", "0000000001", // noughts ahead
		"+1", "-1", "-0", "1-+2", "1--2", "1-2-3", "1-2-", "-1-2", "-", "--", "1-", "-,-", // signs
		" ", " 1", "1 ", "1, 2", "1 ,2", "1- 2", "\t", "1\n", "1\r\n", "1\u00a0", // blanks
		",", ",1", "1,", "1,,3", ",,", "1-2,", ",1-2", // commas
		"1024", "1000-1024", "1024-1025", "1023-1024", "1030", "9999", "4294967296", "4294967301", "18446744073709551616", "18446744073709551621", "9223372036854775807", "9223372036854775808", // past the row
		"99999999999999999999999999", "1-99999999999999999999999999", strings.Repeat("9", 1000), strings.Repeat("0", 1000), strings.Repeat("1", 70000),
		"a", "1a", "a1", "0x1", "1_0", "1e1", "1.0", "1;3", "{1}", "1–2", "１", "٣", "1,é", "−1", // other letters
		"\xff", "1\xff", "\xff1", "1-\x80", "1,\xc3", "\x00", "1\x00", // bytes of no rune
	} {
		if b, e := bits.Parse(s); b != (api.Bits{}) || e != api.ErrBits {
			t.Errorf("Parse(%.40q): %v, error %d", s, b, e)
		}
	}
}

// TestParseEmpty: P5.4, the empty text is the empty set's.
func TestParseEmpty(t *testing.T) {
	if b, e := bits.Parse(""); b != (api.Bits{}) || e != api.OK {
		t.Errorf("%v, error %d", b, e)
	}
}

// TestParseShort: P5.4, every text of up to six of some bytes is taken just if it is the text of a set.
func TestParseShort(t *testing.T) {
	taken := 0
	var walk func(s string, left int)
	walk = func(s string, left int) {
		b, e := bits.Parse(s)
		want, wantErr := plainParse(s)
		if b != want || e != wantErr {
			t.Errorf("Parse(%q): %v, error %d, not %d", s, b, e, wantErr)
		}
		if e == api.OK {
			taken++
		}
		for i := 0; left > 0 && i < len("0123,-+"); i++ {
			walk(s+"0123,-+"[i:i+1], left-1)
		}
	}
	walk("", 6)
	if taken < 100 {
		t.Errorf("only %d texts were taken", taken)
	}
}

// TestParseNearly: P5.4, a set's text with a byte changed, put in or left out, by chance.
func TestParseNearly(t *testing.T) {
	r := rand.New(rand.NewPCG(5, 4))
	for range 4000 {
		var p plain
		for range 1 + r.IntN(5) {
			first := r.IntN(api.MaxForms)
			for n := first; n <= first+r.IntN(4)*r.IntN(40) && n < api.MaxForms; n++ {
				p[n] = true
			}
		}
		s := []byte(p.text())
		at := r.IntN(len(s))
		c := "0123456789,-,- \xff"[r.IntN(16)]
		switch r.IntN(3) {
		case 0:
			s[at] = c
		case 1:
			s = append(s[:at], append([]byte{c}, s[at:]...)...)
		default:
			s = append(s[:at], s[at+1:]...)
		}
		b, e := bits.Parse(string(s))
		if want, wantErr := plainParse(string(s)); b != want || e != wantErr {
			t.Errorf("Parse(%q): %v, error %d, not %d", s, b, e, wantErr)
		}
	}
}
