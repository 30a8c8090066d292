package deriv

import (
	"strconv"
	"strings"

	"dictum/api"
	"dictum/bits"
	"dictum/formula"
	"dictum/sequent"
	"dictum/syntax"
)

// What stands in a line between its parts, and how a step was decided.
const (
	behindNumber  = ": "
	behindSequent = "; "
	aheadOfKids   = " / "
	between       = ", "
	blank         = " "
	turn          = "|- "
	lineEnd       = "\n"
	isProved      = "proved"
	isRefuted     = "refuted"
)

// Print writes steps (P10.6).
func Print(t *formula.Table, steps []api.Step) (string, api.Errno) {
	if e := Check(t, steps); e != api.OK {
		return "", e
	}
	var out strings.Builder
	for i, step := range steps {
		line, e := lineOf(t, i, step)
		if e != api.OK {
			return "", e
		}
		out.WriteString(line + lineEnd)
		if out.Len() > api.MaxText {
			return "", api.ErrLong
		}
	}
	return out.String(), api.OK
}

// lineOf writes a step, without its line's end; it need not be right, but its sequent and its Main are of the table.
func lineOf(t *formula.Table, number int, step api.Step) (string, api.Errno) {
	seq, e := sequent.Print(t, step.Seq)
	if e != api.OK {
		return "", e
	}
	how := isRefuted
	if step.Proved {
		how = isProved
	}
	line := strconv.Itoa(number) + behindNumber + seq + behindSequent + how + blank + Name(step.Rule)
	if step.Rule != api.RuleStuck {
		main, e := syntax.Print(t, step.Main)
		if e != api.OK {
			return "", e
		}
		line += blank + main
	}
	if len(step.Kids) == 0 {
		return line, api.OK
	}
	return line + aheadOfKids + kidsText(step.Kids), api.OK
}

func kidsText(kids []int) string {
	l := make([]string, len(kids))
	for i, kid := range kids {
		l[i] = strconv.Itoa(kid)
	}
	return strings.Join(l, between)
}

// Parse reads steps (P10.6).
func Parse(t *formula.Table, text string) ([]api.Step, api.Errno) {
	if !made(t) {
		return nil, api.ErrNil
	}
	if len(text) > api.MaxText {
		return nil, api.ErrLong
	}
	rows := t.Len()
	steps, err := readSteps(t, text)
	if err != nil {
		t.Cut(rows)
		return nil, errno(err)
	}
	return steps, api.OK
}

// readSteps reads all lines of a text, and asks that the steps are right. With an error the table has got some rows.
func readSteps(t *formula.Table, text string) ([]api.Step, error) {
	var steps []api.Step
	for text != "" {
		line, rest, ended := strings.Cut(text, lineEnd)
		if !ended {
			return nil, errLine
		}
		step, err := readStep(t, len(steps), line)
		if err != nil {
			return nil, err
		}
		steps, text = append(steps, step), rest
	}
	if wrong(t, steps) != nil {
		return nil, errLine
	}
	return steps, nil
}

// readStep reads a line. It is read with an empty table first: if any table lets Print write the line, then one that got the line's formulas from left to right does, and a line that no table has is told ahead of a table that is full.
func readStep(t *formula.Table, number int, line string) (api.Step, error) {
	if _, err := putStep(formula.New(), number, line); err != nil {
		return api.Step{}, errLine
	}
	return putStep(t, number, line)
}

// putStep puts the formulas of a line into a table, and asks that Print writes the step so with it: whatever is read too freely is refused by that.
func putStep(t *formula.Table, number int, line string) (api.Step, error) {
	_, rest, _ := strings.Cut(line, behindNumber)
	seqText, rest, _ := strings.Cut(rest, behindSequent)
	how, rest, _ := strings.Cut(rest, blank)
	rest, kids, hasKids := strings.Cut(rest, aheadOfKids)
	name, main, _ := strings.Cut(rest, blank)

	step := api.Step{Proved: how == isProved}
	var err error
	if step.Seq, err = putSequent(t, seqText); err != nil {
		return api.Step{}, err
	}
	if step.Rule, err = ruleOf(name); err != nil {
		return api.Step{}, err
	}
	if step.Rule != api.RuleStuck {
		if step.Main, err = putFormula(t, main); err != nil {
			return api.Step{}, err
		}
	}
	if hasKids {
		if step.Kids, err = readKids(kids); err != nil {
			return api.Step{}, err
		}
	}
	if again, e := lineOf(t, number, step); e != api.OK || again != line {
		return api.Step{}, errLine
	}
	return step, nil
}

// putSequent is not layer 8's Parse, since that has a bound of tokens which what Print writes may be above.
func putSequent(t *formula.Table, text string) (api.Seq, error) {
	left, goal, _ := strings.Cut(text, turn)
	var s api.Seq
	if left != "" {
		for part := range strings.SplitSeq(strings.TrimSuffix(left, blank), between) {
			id, err := putFormula(t, part)
			if err != nil {
				return api.Seq{}, err
			}
			s.Left, _ = bits.Put(s.Left, id) // a row's number always has a place
		}
	}
	id, err := putFormula(t, goal)
	if err != nil {
		return api.Seq{}, err
	}
	s.Goal = id
	return s, nil
}

// ruleOf answers the rule of a name.
func ruleOf(name string) (api.Rule, error) {
	for k := api.RuleBot; k <= api.RuleStuck; k++ {
		if Name(k) == name {
			return k, nil
		}
	}
	return 0, errLine
}

// readKids reads numbers, which need not be earlier steps' here.
func readKids(text string) ([]int, error) {
	var kids []int
	for part := range strings.SplitSeq(text, between) {
		kid, err := strconv.Atoi(part)
		if err != nil || kid < 0 {
			return nil, errLine
		}
		kids = append(kids, kid)
	}
	return kids, nil
}
