package deriv_test

import (
	"math/rand/v2"
	"regexp"
	"slices"
	"strconv"
	"strings"
	"testing"

	"dictum/api"
	"dictum/deriv"
	"dictum/formula"
	"dictum/syntax"
)

// lineForm is a line by its outer form: number, left side, goal, how it was decided, rule, Main, kids.
var lineForm = regexp.MustCompile(`^([0-9]+): (?:([^;:/|]*(?:\|[^-;:/|][^;:/|]*)*) )?\|- ([^;:/,]*); (proved|refuted) ([a-z0-9]+)(?: ([^;:/,]+?))?(?: / ([0-9]+(?:, [0-9]+)*))?\n$`)

// numberForm is a number without a nought ahead.
var numberForm = regexp.MustCompile(`^(?:0|[1-9][0-9]*)$`)

// plainLineParts are the texts of a line of P10.6; ok tells whether its outer form is a line's.
type plainLineParts struct {
	forms  []string // the left side's, the goal, and Main, if there is one
	left   int      // how many of them are the left side's
	proved bool
	rule   api.Rule
	kids   []int
}

func plainParts(number int, line string) (parts plainLineParts, ok bool) {
	m := lineForm.FindStringSubmatch(line)
	if m == nil || m[1] != strconv.Itoa(number) {
		return parts, false
	}
	if m[2] != "" {
		parts.forms = strings.Split(m[2], ", ")
	} else if !strings.HasPrefix(line, m[1]+": |- ") {
		return parts, false
	}
	parts.left = len(parts.forms)
	parts.forms = append(parts.forms, m[3])
	parts.proved = m[4] == "proved"
	for k := api.RuleBot; k <= api.RuleStuck; k++ {
		if deriv.Name(k) == m[5] {
			parts.rule = k
		}
	}
	stuck := parts.rule == api.RuleStuck
	if parts.rule == 0 || stuck != (m[6] == "") {
		return parts, false
	}
	if !stuck {
		parts.forms = append(parts.forms, m[6])
	}
	if m[7] != "" {
		for _, text := range strings.Split(m[7], ", ") {
			kid, err := strconv.Atoi(text)
			if err != nil || !numberForm.MatchString(text) {
				return parts, false
			}
			parts.kids = append(parts.kids, kid)
		}
	}
	return parts, true
}

// some tells whether Print writes the line with some table: the formulas' texts are what Print writes; on the left like ones stand once, and none behind one of which it is a part. (Of texts that are short: no table is too small for them.)
func (parts plainLineParts) some() bool {
	x := formula.New()
	var ids []int
	for _, f := range parts.forms {
		id, fault := syntax.Parse(x, f)
		if again, _ := syntax.Print(x, id); fault.Code != api.OK || again != f {
			return false
		}
		ids = append(ids, id)
	}
	for i := range parts.left {
		below, _ := x.Below(ids[i])
		for j := i + 1; j < parts.left; j++ {
			if slices.Contains(below, ids[j]) {
				return false
			}
		}
	}
	return true
}

// plainParse is P10.6's Parse of a short text, with a table that a call made: steps, error, and the table's rows behind it.
func plainParse(x *formula.Table, text string) ([]api.Step, api.Errno, []api.Node) {
	y := x.Copy()
	var steps []api.Step
	for line := range strings.SplitAfterSeq(text, "\n") {
		if line == "" {
			break
		}
		parts, ok := plainParts(len(steps), line)
		if !ok || !parts.some() {
			return nil, api.ErrParse, x.Rows()
		}
		var ids []int
		for _, f := range parts.forms {
			id, fault := syntax.Parse(y, f)
			if fault.Code != api.OK {
				return nil, fault.Code, x.Rows()
			}
			ids = append(ids, id)
		}
		if !slices.IsSorted(ids[:parts.left]) {
			return nil, api.ErrParse, x.Rows()
		}
		step := api.Step{Seq: seq(ids[parts.left], ids[:parts.left]...), Proved: parts.proved, Rule: parts.rule, Kids: parts.kids}
		if parts.rule != api.RuleStuck {
			step.Main = ids[parts.left+1]
		}
		steps = append(steps, step)
	}
	if plainCheck(y.Rows(), steps) != api.OK {
		return nil, api.ErrParse, x.Rows()
	}
	return steps, api.OK, y.Rows()
}

// holdParse holds Parse against the plain reading, with a copy of the table; it tells what Parse answers.
func holdParse(t *testing.T, x *formula.Table, text string) api.Errno {
	t.Helper()
	steps, e, rows := plainParse(x, text)
	y := x.Copy()
	got, other := deriv.Parse(y, text)
	if other != e || !alike(got, steps) || !slices.Equal(y.Rows(), rows) {
		t.Fatalf("Parse(%q): %s, error %d, not %s, error %d; rows %v, not %v", text, showAll(got), other, showAll(steps), e, y.Rows(), rows)
	}
	if e == api.OK {
		if again, e := deriv.Print(y, got); again != text || e != api.OK {
			t.Fatalf("Print of Parse(%q): %q, error %d", text, again, e)
		}
	}
	return e
}

// pieces are what a text may have at a place.
func pieces() []string {
	return []string{"\n", " ", "  ", ": ", "; ", ", ", " / ", "|- ", "0", "1", "2", "-", "~", "(", ")", " & ", " | ", " -> ", "a", "b", "c", "e", "true", "false", "proved", "refuted", "id", "stuck", "orr1", "orr2", "impr", "andl", "", "&", "|", "/", ",", "a & b", "~a", "\r", "\t", "é", "\x00"}
}

// turned is a text with something else at a place.
func turned(chance *rand.Rand, text string) string {
	from := chance.IntN(len(text) + 1)
	switch chance.IntN(6) {
	case 0: // a byte less
		to := min(from+1, len(text))
		return text[:from] + text[to:]
	case 1: // some bytes less
		to := min(from+chance.IntN(8), len(text))
		return text[:from] + text[to:]
	case 2: // a piece more
		return text[:from] + pieces()[chance.IntN(len(pieces()))] + text[from:]
	case 3: // a piece instead
		to := min(from+1+chance.IntN(4), len(text))
		return text[:from] + pieces()[chance.IntN(len(pieces()))] + text[to:]
	case 4: // a word instead of another one
		words := strings.Split(text, " ")
		words[chance.IntN(len(words))] = words[chance.IntN(len(words))]
		return strings.Join(words, " ")
	}
	lines := strings.SplitAfter(text, "\n")
	i, j := chance.IntN(len(lines)), chance.IntN(len(lines))
	lines[i], lines[j] = lines[j], lines[i]
	return strings.Join(lines, "")
}

// shortSteps are a table and right steps by chance whose text is short.
func shortSteps(t *testing.T, chance *rand.Rand) (*formula.Table, []api.Step, string) {
	t.Helper()
	for {
		x, steps := someSteps(t, chance, 14)
		if steps == nil {
			continue
		}
		if text, e := deriv.Print(x, steps); e == api.OK && len(text) < 1500 {
			return x, steps, text
		}
	}
}

// TestPlainParse: P10.6, what Print writes of steps by chance, as it is and with something else at a place: with the table, an empty one, one with other rows, and ones that are full or nearly so, against the plain reading.
func TestPlainParse(t *testing.T) {
	chance := newChance(6)
	seen := map[api.Errno]int{}
	for range 400 {
		x, steps, text := shortSteps(t, chance)
		parses(t, x.Copy(), text, steps)
		some := made(t, someRows(chance, 1+chance.IntN(8), 8, 3)...)
		near := filled(t, some.Rows(), api.MaxForms-chance.IntN(8))
		at := filled(t, x.Rows()[:chance.IntN(x.Len()+1)], api.MaxForms-chance.IntN(8))
		tables := []*formula.Table{x, formula.New(), some, near, at}
		for _, y := range tables {
			seen[holdParse(t, y, text)]++
		}
		for range 40 {
			other := turned(chance, text)
			if chance.IntN(4) == 0 {
				other = turned(chance, other)
			}
			seen[holdParse(t, tables[chance.IntN(len(tables))], other)]++
		}
	}
	if seen[api.OK] < 500 || seen[api.ErrForms] < 500 || seen[api.ErrParse] < 5000 {
		t.Errorf("errors that were seen: %v", seen)
	}
}

// TestPlainParseLines: P10.6, the lines and formulas of the other tests, with small tables and full ones, against the plain reading.
func TestPlainParseLines(t *testing.T) {
	x := full(t)
	for _, line := range slices.Concat(goodLines(), badLines()) {
		for _, y := range []*formula.Table{x, formula.New(), example(t)} {
			holdParse(t, y, line+"\n")
		}
	}
	for _, f := range slices.Concat(goodForms(), badForms()) {
		for _, y := range []*formula.Table{x, formula.New(), example(t)} {
			holdParse(t, y, "0: "+f+" |- "+f+"; proved id "+f+"\n")
		}
	}
}
