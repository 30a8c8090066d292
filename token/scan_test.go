package token_test

import (
	"slices"
	"strings"
	"testing"

	"dictum/api"
	"dictum/token"
)

func name(s string) api.Token { return api.Token{Kind: api.TokenName, Text: s} }
func number(n int) api.Token  { return api.Token{Kind: api.TokenInt, Int: n} }
func sign(s string) api.Token { return api.Token{Kind: api.TokenSign, Text: s} }
func end() api.Token          { return api.Token{Kind: api.TokenEnd} }

// bare are the tokens without their spots.
func bare(l []api.Token) []api.Token {
	out := slices.Clone(l)
	for i := range out {
		out[i].At = api.Spot{}
	}
	return out
}

// cuts asks that a text is cut into these tokens and the end, each at the spot of its byte.
func cuts(t *testing.T, s string, want ...api.Token) {
	t.Helper()
	l, f := token.Scan(s)
	if f != (api.Fault{}) {
		t.Errorf("Scan(%q): fault %v", s, f)
		return
	}
	if want = append(slices.Clone(want), end()); !slices.Equal(bare(l), want) {
		t.Errorf("Scan(%q): %v, not %v", s, l, want)
		return
	}
	last := -1
	for _, k := range l {
		if k.At != token.At(s, k.At.Off) || k.At.Off <= last && k.Kind != api.TokenEnd {
			t.Errorf("Scan(%q): spot of %v", s, k)
		}
		last = k.At.Off
	}
	if last != len(s) {
		t.Errorf("Scan(%q): end at %d", s, last)
	}
}

// faults asks that a text has its first fault there, and no tokens.
func faults(t *testing.T, s string, code api.Errno, off int) {
	t.Helper()
	l, f := token.Scan(s)
	if want := (api.Fault{Code: code, At: token.At(s, off)}); f != want || len(l) != 0 {
		t.Errorf("Scan(%q): %v, fault %v, not %v", s, l, f, want)
	}
}

const allSigns = "<-> <= => -> |- ~ & | ( ) [ ] { } , . : ; = /"

// TestScanEmpty is P2.2: of a text without tokens there is the end.
func TestScanEmpty(t *testing.T) {
	for _, s := range []string{"", " ", "\t\n\r ", "#", "# p -> q", "#\n", "##\n# #\n \r\n"} {
		cuts(t, s)
	}
	if l, f := token.Scan(""); len(l) != 1 || l[0] != (api.Token{At: spot(1, 1, 0)}) || f != (api.Fault{}) {
		t.Error(l, f)
	}
}

// TestScanSpots is P2.2 with P2.1: every field of every token.
func TestScanSpots(t *testing.T) {
	l, f := token.Scan("p1 →\n\t⊤ 20# ü\xff\xe2\x8a\r\n\r¬q # ∨")
	want := []api.Token{
		{Kind: api.TokenName, Text: "p1", At: spot(1, 1, 0)},
		{Kind: api.TokenSign, Text: "->", At: spot(1, 4, 3)},
		{Kind: api.TokenName, Text: "true", At: spot(2, 2, 8)},
		{Kind: api.TokenInt, Int: 20, At: spot(2, 4, 12)},
		{Kind: api.TokenSign, Text: "~", At: spot(3, 2, 24)},
		{Kind: api.TokenName, Text: "q", At: spot(3, 3, 26)},
		{Kind: api.TokenEnd, At: spot(3, 8, 33)},
	}
	if f != (api.Fault{}) || !slices.Equal(l, want) {
		t.Errorf("%v, fault %v", l, f)
	}
	l, f = token.Scan("\xe2\n")
	if len(l) != 0 || f != (api.Fault{Code: api.ErrToken, At: spot(1, 1, 0)}) {
		t.Error(l, f)
	}
	l, f = token.Scan("p # é\xe2\x8a\n ⊢ q\n→ → 007")
	if len(l) != 0 || f != (api.Fault{Code: api.ErrNumber, At: spot(3, 5, 24)}) {
		t.Error(l, f)
	}
}

// TestScanBytes is P2.2 for each byte that stands alone.
func TestScanBytes(t *testing.T) {
	for v := range 256 {
		c := byte(v)
		s := string([]byte{c})
		switch {
		case strings.IndexByte(" \t\n\r#", c) >= 0:
			cuts(t, s)
		case c >= 'a' && c <= 'z' || c >= 'A' && c <= 'Z' || c == '_':
			cuts(t, s, name(s))
		case c >= '0' && c <= '9':
			cuts(t, s, number(v-'0'))
		case strings.IndexByte("~&|()[]{},.:;=/", c) >= 0:
			cuts(t, s, sign(s))
		default:
			faults(t, s, api.ErrToken, 0)
			faults(t, "p "+s, api.ErrToken, 2)
			if c == '\'' {
				cuts(t, "p"+s, name("p'"))
			} else {
				faults(t, "p"+s, api.ErrToken, 1)
			}
		}
	}
}

// TestScanBlanks is P2.2: 32, 9, 10 and 13 are blanks, and no other byte or rune.
func TestScanBlanks(t *testing.T) {
	cuts(t, " \t\n\rp\r\n\t q\n\n", name("p"), name("q"))
	for _, s := range []string{"\x00", "\x08", "\v", "\f", "\x0e", "\x1f", "\x7f", "\u0085", "\u00a0", "\u2003", "\u2028", "\u3000", "\ufeff"} {
		faults(t, "p "+s+" q", api.ErrToken, 2)
	}
}

// TestScanComments is P2.2: up to just ahead of byte 10 or to the end, whatever bytes stand there.
func TestScanComments(t *testing.T) {
	cuts(t, "p#q\nr", name("p"), name("r"))
	cuts(t, "p#q\rr\ns", name("p"), name("s"))
	cuts(t, "p#q", name("p"))
	cuts(t, "#\np", name("p"))
	cuts(t, "#\n#\n#x\n#")
	cuts(t, "->#->\n->", sign("->"), sign("->"))
	cuts(t, "1#a\n2", number(1), number(2))
	cuts(t, "p # 007 1a \\ - < é # ⊤\n⊥", name("p"), name("false"))
	cuts(t, "p#\x00\x01\xff\xe2\x8a\n⊤", name("p"), name("true"))
	cuts(t, "p#\xe2\x8a", name("p"))
	faults(t, "#\xe2\x8a\n-", api.ErrToken, 4)
	faults(t, "-#\n>", api.ErrToken, 0)
}

// TestScanNames is P2.2: what a name begins with, what it goes on with, and how long it may be.
func TestScanNames(t *testing.T) {
	for _, s := range []string{"a", "z", "A", "Z", "_", "__", "p'", "p''1", "_'", "x'1", "a0z9A_Z'", "true", "false", "fun", "T1"} {
		cuts(t, s, name(s))
	}
	cuts(t, "a.b", name("a"), sign("."), name("b"))
	cuts(t, "p⊤q", name("p"), name("true"), name("q"))
	faults(t, "'p", api.ErrToken, 0)
	faults(t, "p 'q", api.ErrToken, 2)
	faults(t, "pé", api.ErrToken, 1)
	faults(t, "p\xc3", api.ErrToken, 1)
	faults(t, "p@", api.ErrToken, 1)
	faults(t, "p`", api.ErrToken, 1)
	faults(t, "p^", api.ErrToken, 1)
	for _, c := range []string{"a", "Z", "_", "'", "0"} {
		long := "p" + strings.Repeat(c, 30)
		cuts(t, long, name(long))
		cuts(t, "("+long+")", sign("("), name(long), sign(")"))
		faults(t, long+c, api.ErrWord, 0)
		faults(t, "~ "+long+c, api.ErrWord, 2)
		faults(t, long+c+" -", api.ErrWord, 0)
		faults(t, strings.Repeat("p"+c, 40000), api.ErrWord, 0)
		cuts(t, long+"⊤", name(long), name("true"))
	}
}

// TestScanNumbers is P2.2: no nought ahead, at most MaxNumber, no part of a name right behind.
func TestScanNumbers(t *testing.T) {
	cuts(t, "0", number(0))
	cuts(t, "9", number(9))
	cuts(t, "10", number(10))
	cuts(t, "100200300", number(100200300))
	cuts(t, "999999999", number(999999999))
	cuts(t, "0 0", number(0), number(0))
	cuts(t, "1(2)", number(1), sign("("), number(2), sign(")"))
	cuts(t, "1.5", number(1), sign("."), number(5))
	cuts(t, "1⊤", number(1), name("true"))
	cuts(t, "0→7#", number(0), sign("->"), number(7))
	for _, s := range []string{
		"00", "01", "007", "0000000000", "00a", "1000000000", "9999999999", "1000000000a", "2147483648", "4294967295", "4294967296", "9223372036854775808",
		"18446744073709551616", "18446744073709551617", "1" + strings.Repeat("0", 100000), strings.Repeat("9", 64), strings.Repeat("0", 64),
		"1a", "1Z", "1_", "1'", "0a", "0x1", "0_", "0'", "9z", "999999999A", "1e5",
	} {
		faults(t, s, api.ErrNumber, 0)
		faults(t, "p "+s+" -", api.ErrNumber, 2)
	}
	faults(t, "1é", api.ErrToken, 1)
	faults(t, "1\xff", api.ErrToken, 1)
	faults(t, "-1", api.ErrToken, 0)
	faults(t, "+1", api.ErrToken, 0)
	faults(t, "1 007", api.ErrNumber, 2)
	faults(t, "٣", api.ErrToken, 0)
}

// TestScanSigns is P2.2: each sign alone, and the longest one where several begin.
func TestScanSigns(t *testing.T) {
	for s := range strings.FieldsSeq(allSigns) {
		cuts(t, s, sign(s))
		cuts(t, "p"+s+"q", name("p"), sign(s), name("q"))
	}
	cuts(t, "<->->", sign("<->"), sign("->"))
	cuts(t, "<==>", sign("<="), sign("=>"))
	cuts(t, "==>", sign("="), sign("=>"))
	cuts(t, "=>=", sign("=>"), sign("="))
	cuts(t, "||-", sign("|"), sign("|-"))
	cuts(t, "|-->", sign("|-"), sign("->"))
	cuts(t, "| ->", sign("|"), sign("->"))
	cuts(t, "| -> |", sign("|"), sign("->"), sign("|"))
	cuts(t, "~~", sign("~"), sign("~"))
	cuts(t, "()[]{}", sign("("), sign(")"), sign("["), sign("]"), sign("{"), sign("}"))
	cuts(t, "|", sign("|"))
	cuts(t, "p |-", name("p"), sign("|-"))
	cuts(t, "p =", name("p"), sign("="))
}

// TestScanNoToken is P2.2: ErrToken where none begins.
func TestScanNoToken(t *testing.T) {
	for _, s := range []string{"-", "--", "-p", "- >", "-=", "<", "<-", "<--", "<- >", "<p", "< =", "<<=", "<>", ">", ">=", "\\", "!", "\"", "$", "%", "*", "+", "?", "@", "^", "`", "é", "×", "⇒", "⊃", "∀", "⊣", "≥", "𝔸", "�", "\x80", "\xff"} {
		faults(t, s, api.ErrToken, 0)
		faults(t, " "+s, api.ErrToken, 1)
		faults(t, "p"+s, api.ErrToken, 1)
		faults(t, s+"007", api.ErrToken, 0)
	}
	faults(t, "|->", api.ErrToken, 2)
	faults(t, "|--", api.ErrToken, 2)
	faults(t, "<=>", api.ErrToken, 2)
	faults(t, "p -", api.ErrToken, 2)
	faults(t, "p <", api.ErrToken, 2)
	faults(t, "p <-", api.ErrToken, 2)
	faults(t, "/\\", api.ErrToken, 1)
}

// runes are the runes of logic, and what they stand for.
func runes() map[string]api.Token {
	return map[string]api.Token{
		"\u00ac": sign("~"), "\u2227": sign("&"), "\u2228": sign("|"), "\u2192": sign("->"), "\u2194": sign("<->"), "\u22a2": sign("|-"), "\u2264": sign("<="),
		"\u22a4": name("true"), "\u22a5": name("false"),
	}
}

// TestScanRunes is P2.2: runes of logic, alone and among others.
func TestScanRunes(t *testing.T) {
	for s, k := range runes() {
		cuts(t, s, k)
		cuts(t, s+"p", k, name("p"))
		cuts(t, s+"_", k, name("_"))
		cuts(t, s+"7", k, number(7))
		cuts(t, s+s, k, k)
		cuts(t, "p"+s+"q", name("p"), k, name("q"))
		cuts(t, "12"+s, number(12), k)
		cuts(t, "|"+s, sign("|"), k)
		cuts(t, "="+s, sign("="), k)
		cuts(t, s+"->", k, sign("->"))
		faults(t, s+"'", api.ErrToken, len(s))
		faults(t, s+">", api.ErrToken, len(s))
		faults(t, s+"01", api.ErrNumber, len(s))
		faults(t, "<"+s, api.ErrToken, 0)
		faults(t, "-"+s, api.ErrToken, 0)
	}
}

// TestScanRunesCutOff is P2.2 with P2.1: the first bytes of a rune of logic begin no token.
func TestScanRunesCutOff(t *testing.T) {
	for s := range runes() {
		for n := 1; n < len(s); n++ {
			for _, behind := range []string{"", " ", "p", "\n", "#", s, "\xff"} {
				faults(t, s[:n]+behind, api.ErrToken, 0)
				faults(t, "p "+s+s[:n]+behind, api.ErrToken, 2+len(s))
			}
			faults(t, s[n:], api.ErrToken, 0)
		}
	}
}

// TestScanAllRunes is P2.2: of all runes above 127, just nine begin a token.
func TestScanAllRunes(t *testing.T) {
	known := runes()
	for r := rune(0x80); r <= 0x10ffff; r++ {
		s := string(r)
		if k, ok := known[s]; ok {
			cuts(t, s, k)
		} else {
			faults(t, s, api.ErrToken, 0)
		}
	}
}

// TestScanFirstFault is P2.2: of several faults the first one in the text.
func TestScanFirstFault(t *testing.T) {
	long := strings.Repeat("x", 32)
	faults(t, long+" 007 -", api.ErrWord, 0)
	faults(t, "007 "+long+" -", api.ErrNumber, 0)
	faults(t, "- 007 "+long, api.ErrToken, 0)
	faults(t, "p\n(007 "+long, api.ErrNumber, 3)
	faults(t, "1"+long, api.ErrNumber, 0)
	faults(t, "⊤"+long, api.ErrWord, 3)
	faults(t, long+"\xff", api.ErrWord, 0)
	faults(t, "p # 007\n\\ 007", api.ErrToken, 8)
}

// TestScanGreatTexts is R1 and THE BOUND: many tokens and long gaps go by in a moment.
func TestScanGreatTexts(t *testing.T) {
	const many = 1 << 20
	for _, piece := range []string{"p ", "¬", "\n", "#\n", "# é", "(", "7 "} {
		s := strings.Repeat(piece, many)
		l, f := token.Scan(s)
		if f != (api.Fault{}) || len(l) == 0 || l[len(l)-1].At != token.At(s, len(s)) {
			t.Errorf("%q: %d tokens, fault %v", piece, len(l), f)
		}
	}
}

// TestScanTwice is R4: nothing is kept from call to call.
func TestScanTwice(t *testing.T) {
	one, _ := token.Scan("p -> q")
	one[0].Text = "spoiled"
	token.Scan("007")
	two, f := token.Scan("p -> q")
	if f != (api.Fault{}) || two[0].Text != "p" || two[0].At != spot(1, 1, 0) {
		t.Error(two, f)
	}
}
