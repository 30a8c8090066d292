package term_test

import (
	"maps"
	"slices"
	"strconv"
	"strings"

	"dictum/api"
	"dictum/formula"
	"dictum/syntax"
)

// This file says the chapter's promises once more, as plainly as may be, without a thought for time.

// scope tells which name is bound within part i of a term; "", if none is.
func scope(x api.Term, i int) string {
	switch {
	case x.Kind == api.TLam && i == 0, x.Kind == api.TLet && i == 1, x.Kind == api.TCase && i == 1:
		return x.Name
	case x.Kind == api.TCase && i == 2:
		return x.Other
	}
	return ""
}

// rebound is a term whose part i is another one, and the name that is bound there, too.
func rebound(x api.Term, i int, name string, part api.Term) api.Term {
	x.Sub = slices.Clone(x.Sub)
	x.Sub[i] = part
	switch {
	case name == "":
	case i == 2:
		x.Other = name
	default:
		x.Name = name
	}
	return x
}

// plainSize counts all nodes.
func plainSize(x api.Term) int {
	n := 1
	for _, part := range x.Sub {
		n += plainSize(part)
	}
	return n
}

// plainDeep counts all levels.
func plainDeep(x api.Term) int {
	n := 0
	for _, part := range x.Sub {
		n = max(n, plainDeep(part))
	}
	return n + 1
}

// plainFree are the free names.
func plainFree(x api.Term) map[string]bool {
	if x.Kind == api.TVar {
		return map[string]bool{x.Name: true}
	}
	out := map[string]bool{}
	for i, part := range x.Sub {
		l := plainFree(part)
		delete(l, scope(x, i))
		maps.Copy(out, l)
	}
	return out
}

// plainNames are the free names, by bytes.
func plainNames(x api.Term) []string {
	return slices.Sorted(maps.Keys(plainFree(x)))
}

// nameless is a text of a term in which each bound name is told by how many bindings stand between it and its own.
func nameless(x api.Term, bound ...string) string {
	if x.Kind == api.TVar {
		for i, name := range bound {
			if name == x.Name {
				return "#" + strconv.Itoa(i)
			}
		}
		return x.Name
	}
	out := "[" + strconv.Itoa(int(x.Kind)) + ":" + strconv.Itoa(x.Form)
	for i, part := range x.Sub {
		l := bound
		if name := scope(x, i); name != "" {
			l = append([]string{name}, bound...)
		}
		out += " " + nameless(part, l...)
	}
	return out + "]"
}

// plainPut is P12.4's sentences, one by one.
func plainPut(x api.Term, name string, y api.Term) api.Term {
	if x.Kind == api.TVar {
		if x.Name == name {
			return y
		}
		return x
	}
	for i, part := range x.Sub {
		bound := scope(x, i)
		if bound == name || !plainFree(part)[name] {
			continue
		}
		if bound != "" && plainFree(y)[bound] {
			other := 0
			for plainFree(y)[number(other)] || plainFree(part)[number(other)] || number(other) == name {
				other++
			}
			part, bound = plainPut(part, bound, v(number(other))), number(other)
		}
		x = rebound(x, i, bound, plainPut(part, name, y))
	}
	return x
}

// number is the name v0, v1, ..
func number(i int) string { return "v" + strconv.Itoa(i) }

// renamed is a term that is the same but for bound names: each binding gets a name of its own.
func renamed(x api.Term, next *int) api.Term {
	for i, part := range x.Sub {
		bound := scope(x, i)
		part = renamed(part, next)
		if bound != "" {
			*next++
			own := "own" + strconv.Itoa(*next)
			part, bound = plainPut(part, bound, v(own)), own
		}
		x = rebound(x, i, bound, part)
	}
	return x
}

// plainPrint is P12.6's text, but for its limit.
func plainPrint(t *formula.Table, x api.Term) string {
	const far = "fun case let"
	const near = "app fst snd inl inr abort"
	kinds := strings.Fields("var fun app pair fst snd inl inr case abort the let")
	part := func(i int, enclosed string) string {
		s := plainPrint(t, x.Sub[i])
		if slices.Contains(strings.Fields(enclosed), kinds[x.Sub[i].Kind-1]) {
			return "(" + s + ")"
		}
		return s
	}
	switch kind := kinds[x.Kind-1]; kind {
	case "var":
		return x.Name
	case "fun":
		return "fun " + x.Name + " => " + part(0, "")
	case "app":
		return part(0, far) + " " + part(1, far+" "+near)
	case "pair":
		return "(" + part(0, "") + ", " + part(1, "") + ")"
	case "case":
		return "case " + part(0, "") + " of " + x.Name + " => " + part(1, "") + " | " + x.Other + " => " + part(2, "")
	case "the":
		s, _ := syntax.Print(t, x.Form)
		return "(" + part(0, "") + " : " + s + ")"
	case "let":
		return "let " + x.Name + " = " + part(0, "") + " in " + part(1, "")
	default:
		return kind + " " + part(0, far+" "+near)
	}
}
