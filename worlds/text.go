package worlds

import (
	"strings"

	"dictum/api"
	"dictum/octet"
)

// Text writes a model, which may be any: a line a world (P17.4).
func Text(m api.Model) string {
	var out strings.Builder
	for w, row := range m.Up {
		out.WriteString(octet.Dec(w))
		putRow(&out, " >", row, octet.Dec)
		if w < len(m.Val) {
			putRow(&out, " :", m.Val[w], func(name string) string { return name })
		}
		out.WriteByte('\n')
	}
	return out.String()
}

// putRow writes a row behind its sign, if anything stands in it.
func putRow[T any](out *strings.Builder, sign string, row []T, text func(T) string) {
	if len(row) == 0 {
		return
	}
	out.WriteString(sign)
	for _, one := range row {
		out.WriteByte(' ')
		out.WriteString(text(one))
	}
}

// Parse reads just what Text writes of a well-formed model (P17.4).
func Parse(s string) (api.Model, api.Errno) {
	if len(s) > api.MaxText {
		return api.Model{}, api.ErrModel
	}
	m, ok := read(s)
	if !ok || Check(m) != api.OK || Text(m) != s { // lines are read loosely: whether they are as Text writes them is asked here
		return api.Model{}, api.ErrModel
	}
	return m, api.OK
}

// read answers the model of whose text the lines may be; false, if a row of Up cannot be read.
func read(s string) (api.Model, bool) {
	var m api.Model
	for line := range strings.Lines(s) {
		ahead, names, _ := strings.Cut(line, " :")
		_, numbers, _ := strings.Cut(ahead, " >")
		row, ok := readNumbers(strings.Fields(numbers))
		if !ok {
			return api.Model{}, false
		}
		m.Up = append(m.Up, row)
		m.Val = append(m.Val, strings.Fields(names))
	}
	return m, true
}

func readNumbers(words []string) ([]int, bool) {
	var l []int
	for _, word := range words {
		w, e := octet.Undec(word, api.MaxWorlds-1)
		if e != api.OK {
			return nil, false
		}
		l = append(l, w)
	}
	return l, true
}
