package token_test

import (
	"regexp"
	"slices"
	"strconv"
	"strings"
	"testing"

	"dictum/api"
	"dictum/token"
)

// pieces are what texts of these tests are made of: what begins, goes on, ends and spoils a token.
var pieces = []string{"p", "Z_", "'", "0", "7", "<", "-", ">", "=", "|", "(", "#", " ", "\n", "\r", "¬", "⊤", "\xe2", "\x8a", "é", "\x00"}

// eachText calls f on every text of up to n pieces.
func eachText(n int, f func(s string)) {
	var walk func(s string, left int)
	walk = func(s string, left int) {
		f(s)
		if left > 0 {
			for _, p := range pieces {
				walk(s+p, left-1)
			}
		}
	}
	walk("", n)
}

var (
	gapForm  = regexp.MustCompile(`^(?:[ \t\n\r]|#[^\n]*)*`)
	nameForm = regexp.MustCompile(`^[A-Za-z_][A-Za-z0-9_']*`)
	digits   = regexp.MustCompile(`^[0-9]+`)
	number9  = regexp.MustCompile(`^(?:0|[1-9][0-9]{0,8})$`)
	signForm = regexp.MustCompile(`^(?:<->|<=|=>|->|\|-|[~&|()\[\]{},.:;=/])`)
	runeForm = regexp.MustCompile(`^[¬∧∨→↔⊢≤⊤⊥]`)
)

// plainScan says P2.2 by regular expressions.
func plainScan(s string) ([]api.Token, api.Fault) {
	var out []api.Token
	for off := 0; ; {
		off += len(gapForm.FindString(s[off:]))
		rest := s[off:]
		at := plainAt(s, off)
		if rest == "" {
			return append(out, api.Token{At: at}), api.Fault{}
		}
		var k api.Token
		size := 0
		if w := nameForm.FindString(rest); w != "" {
			if len(w) > 31 {
				return nil, api.Fault{Code: 22, At: at}
			}
			k, size = name(w), len(w)
		} else if w := digits.FindString(rest); w != "" {
			if !number9.MatchString(w) || regexp.MustCompile(`^[A-Za-z_']`).MatchString(rest[len(w):]) {
				return nil, api.Fault{Code: 21, At: at}
			}
			n, _ := strconv.Atoi(w)
			k, size = number(n), len(w)
		} else if w := signForm.FindString(rest); w != "" {
			k, size = sign(w), len(w)
		} else if w := runeForm.FindString(rest); w != "" {
			k, size = runes()[w], len(w)
		} else {
			return nil, api.Fault{Code: 20, At: at}
		}
		k.At = at
		out = append(out, k)
		off += size
	}
}

// TestScanAllShortTexts holds Scan against the plain one.
func TestScanAllShortTexts(t *testing.T) {
	eachText(4, func(s string) {
		l, f := token.Scan(s)
		want, fault := plainScan(s)
		if f != fault || !slices.Equal(l, want) {
			t.Fatalf("Scan(%q): %v, fault %v; not %v, fault %v", s, l, f, want, fault)
		}
	})
}

// TestFollowsName is P2.3 in the words of Scan.
func TestFollowsName(t *testing.T) {
	eachText(3, func(s string) {
		l, f := token.Scan(s)
		want := f.Code == api.OK && len(l) == 2 && l[0].Kind == api.TokenName && l[0].Text == s
		if token.Name(s) != want {
			t.Fatalf("Name(%q): %v", s, !want)
		}
	})
}

// joinsBack asks that Scan of what Join writes are the tokens.
func joinsBack(t *testing.T, l []api.Token) {
	t.Helper()
	s, e := token.Join(l)
	if e != api.OK {
		t.Fatalf("Join(%v): error %d", l, e)
	}
	want := bare(l)
	if len(want) == 0 || want[len(want)-1].Kind != api.TokenEnd {
		want = append(want, end())
	}
	if again, f := token.Scan(s); f != (api.Fault{}) || !slices.Equal(bare(again), want) {
		t.Fatalf("Join(%v), scanned: %v, fault %v", l, again, f)
	}
}

// someTokens are one of each sign, and names and numbers at their edges.
func someTokens() []api.Token {
	out := []api.Token{name("p"), name("_'"), name("true"), name(strings.Repeat("n", 31)), number(0), number(10), number(999999999)}
	for s := range strings.FieldsSeq(allSigns) {
		out = append(out, sign(s))
	}
	return out
}

// TestFollowsJoin is P2.5: tokens made by hand, and those of texts, there and back.
func TestFollowsJoin(t *testing.T) {
	joinsBack(t, nil)
	joinsBack(t, []api.Token{end()})
	joinsBack(t, someTokens())
	for _, a := range someTokens() {
		for _, b := range someTokens() {
			joinsBack(t, []api.Token{a, b})
			joinsBack(t, []api.Token{b, a, b, end()})
		}
	}
	eachText(3, func(s string) {
		if l, f := token.Scan(s); f.Code == api.OK {
			joinsBack(t, l)
			joinsBack(t, l[:len(l)-1])
		}
	})
}

// TestFollowsGaps is P2.5: blanks and comments between two tokens, ahead of the first and behind the last one turn nothing but spots.
func TestFollowsGaps(t *testing.T) {
	eachText(3, func(s string) {
		l, f := token.Scan(s)
		if f.Code != api.OK {
			return
		}
		for _, gap := range []string{" ", "\t", "\n", "\r", "#\n", "# ⊤ - 007\xff\xe2\x8a\r\n", " #x\n\n\r\t#y\n"} {
			for _, k := range l {
				wider := s[:k.At.Off] + gap + s[k.At.Off:]
				if k.Kind == api.TokenEnd && strings.Contains(s, "#") {
					continue // that place may be within a comment
				}
				again, f := token.Scan(wider)
				if f != (api.Fault{}) || !slices.Equal(bare(again), bare(l)) {
					t.Fatalf("Scan(%q): %v, fault %v; Scan(%q): %v", wider, again, f, s, l)
				}
				for _, k := range again {
					if k.At != plainAt(wider, k.At.Off) {
						t.Fatalf("Scan(%q): spot of %v", wider, k)
					}
				}
			}
		}
	})
}

// TestFollowsFault is P2.5: what stands ahead of a fault has none.
func TestFollowsFault(t *testing.T) {
	eachText(4, func(s string) {
		_, f := token.Scan(s)
		if f.Code == api.OK {
			if f != (api.Fault{}) {
				t.Fatalf("Scan(%q): fault %v", s, f)
			}
			return
		}
		if _, g := token.Scan(s[:f.At.Off]); g != (api.Fault{}) {
			t.Fatalf("Scan(%q), ahead of fault %v: %v", s, f, g)
		}
	})
}
