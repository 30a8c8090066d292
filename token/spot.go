package token

import (
	"strings"

	"dictum/api"
)

// start is the spot of byte 0.
func start() api.Spot { return api.Spot{Line: 1, Col: 1} }

// At answers the spot of a byte (P2.1).
func At(s string, off int) api.Spot {
	off = min(max(off, 0), len(s))
	at := start()
	// Not over s[:off]: a rune that off stands within would be cut there, and its bytes be counted one by one.
	for i, r := range s {
		if i >= off {
			break
		}
		at = behind(at, r)
	}
	at.Off = off
	return at
}

// behind is the spot behind a rune, but for its byte.
func behind(at api.Spot, r rune) api.Spot {
	if r == '\n' {
		at.Line++
		at.Col = 1
	} else {
		at.Col++
	}
	return at
}

// cursor is how far a text is cut. It keeps its spot as it goes: At would begin at byte 0 for every token.
type cursor struct {
	text string
	at   api.Spot
}

func (c *cursor) rest() string { return c.text[c.at.Off:] }

// pass goes over the next bytes, which end no rune halfway.
func (c *cursor) pass(size int) {
	for _, r := range c.rest()[:size] {
		c.at = behind(c.at, r)
	}
	c.at.Off += size
}

// skip goes over blanks and comments.
func (c *cursor) skip() {
gaps:
	for c.at.Off < len(c.text) {
		switch c.text[c.at.Off] {
		case ' ', '\t', '\n', '\r':
			c.pass(1)
		case '#':
			c.pass(commentSize(c.rest()))
		default:
			break gaps
		}
	}
}

func commentSize(s string) int {
	if i := strings.IndexByte(s, '\n'); i >= 0 {
		return i
	}
	return len(s)
}
