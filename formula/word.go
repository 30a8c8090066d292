package formula

import "dictum/api"

// Word tells whether a text may be a name (P3.1).
func Word(name string) bool {
	if name == "" || len(name) > api.MaxName || !isLetter(name[0]) {
		return false
	}
	for i := 1; i < len(name); i++ {
		if !withinName(name[i]) {
			return false
		}
	}
	return !isTaken(name)
}

func isLetter(b byte) bool {
	return b >= 'a' && b <= 'z' || b >= 'A' && b <= 'Z'
}

func withinName(b byte) bool {
	return isLetter(b) || b >= '0' && b <= '9' || b == '_' || b == '\''
}

// isTaken tells of the words that formulas' and terms' texts have for themselves.
func isTaken(name string) bool {
	switch name {
	case "abort", "case", "false", "fst", "fun", "in", "inl", "inr", "let", "of", "snd", "true":
		return true
	}
	return false
}
