package token

import (
	"strings"
	"unicode/utf8"

	"dictum/api"
)

// signs are the signs, those of more bytes ahead of what they begin with.
var signs = [...]string{"<->", "<=", "=>", "->", "|-", "~", "&", "|", "(", ")", "[", "]", "{", "}", ",", ".", ":", ";", "=", "/"}

// cut answers the token that begins at byte 0, without its spot, and how many bytes it has.
func cut(s string) (api.Token, int, api.Errno) {
	switch {
	case s == "":
		return api.Token{Kind: api.TokenEnd}, 0, api.OK
	case beginsName(s[0]):
		return cutName(s)
	case isDigit(s[0]):
		return cutNumber(s)
	case s[0] < utf8.RuneSelf:
		return cutSign(s)
	}
	return cutRune(s)
}

func cutName(s string) (api.Token, int, api.Errno) {
	size := 0
	for size < len(s) && withinName(s[size]) {
		size++
	}
	if size > api.MaxName {
		return api.Token{}, 0, api.ErrWord
	}
	return api.Token{Kind: api.TokenName, Text: s[:size]}, size, api.OK
}

func cutNumber(s string) (api.Token, int, api.Errno) {
	var value int64 // ten digits may be more than an int has room for
	size := 0
	for size < len(s) && isDigit(s[size]) {
		value = 10*value + int64(s[size]-'0')
		if value > api.MaxNumber {
			return api.Token{}, 0, api.ErrNumber
		}
		size++
	}
	if s[0] == '0' && size > 1 {
		return api.Token{}, 0, api.ErrNumber
	}
	if size < len(s) && withinName(s[size]) {
		return api.Token{}, 0, api.ErrNumber
	}
	return api.Token{Kind: api.TokenInt, Int: int(value)}, size, api.OK
}

func cutSign(s string) (api.Token, int, api.Errno) {
	for _, sign := range signs {
		if strings.HasPrefix(s, sign) {
			return api.Token{Kind: api.TokenSign, Text: sign}, len(sign), api.OK
		}
	}
	return api.Token{}, 0, api.ErrToken
}

// cutRune cuts a rune of logic. What begins no well formed rune is decoded as utf8.RuneError, which is none of them.
func cutRune(s string) (api.Token, int, api.Errno) {
	r, size := utf8.DecodeRuneInString(s)
	kind, text := meaning(r)
	if kind == api.TokenEnd {
		return api.Token{}, 0, api.ErrToken
	}
	return api.Token{Kind: kind, Text: text}, size, api.OK
}

// meaning answers what a rune of logic stands for; TokenEnd, if it is none.
func meaning(r rune) (api.TokenKind, string) {
	switch r {
	case '¬':
		return api.TokenSign, "~"
	case '∧':
		return api.TokenSign, "&"
	case '∨':
		return api.TokenSign, "|"
	case '→':
		return api.TokenSign, "->"
	case '↔':
		return api.TokenSign, "<->"
	case '⊢':
		return api.TokenSign, "|-"
	case '≤':
		return api.TokenSign, "<="
	case '⊤':
		return api.TokenName, "true"
	case '⊥':
		return api.TokenName, "false"
	}
	return api.TokenEnd, ""
}

func isDigit(b byte) bool { return b >= '0' && b <= '9' }

func beginsName(b byte) bool {
	return b >= 'a' && b <= 'z' || b >= 'A' && b <= 'Z' || b == '_'
}

func withinName(b byte) bool {
	return beginsName(b) || isDigit(b) || b == '\''
}
