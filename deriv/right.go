package deriv

import (
	"errors"

	"dictum/api"
	"dictum/bits"
	"dictum/formula"
	"dictum/rule"
	"dictum/sequent"
)

// What is wrong with steps, or with lines that should tell some.
var (
	errTable   = errors.New("no call made the table")
	errNone    = errors.New("there is no step")
	errSequent = errors.New("a step's sequent has a number that is no formula's")
	errRule    = errors.New("a step's rule does not decide its sequent so")
	errKids    = errors.New("a step's kids are not those that its rule asks for")
	errLine    = errors.New("a line is none of a step")
	errRoom    = errors.New("a line's formula has no room in the table")
)

// errno answers api's number of what is wrong.
func errno(err error) api.Errno {
	switch {
	case errors.Is(err, errTable):
		return api.ErrNil
	case errors.Is(err, errNone), errors.Is(err, errSequent), errors.Is(err, errRule), errors.Is(err, errKids):
		return api.ErrSteps
	case errors.Is(err, errLine):
		return api.ErrParse
	case errors.Is(err, errRoom):
		return api.ErrForms
	}
	return api.OK
}

// made tells whether a call made the table.
func made(t *formula.Table) bool {
	_, e := t.Below(-1) // no row has that number, but a Table that no call made is told first
	return e != api.ErrNil
}

// wrong answers what is wrong with steps, if anything is.
func wrong(t *formula.Table, steps []api.Step) error {
	if !made(t) {
		return errTable
	}
	if len(steps) == 0 {
		return errNone
	}
	c := checker{table: t.Copy(), steps: steps}
	for i := range steps {
		if err := c.wrongStep(i); err != nil {
			return err
		}
	}
	return nil
}

// checker holds steps against a table as it stands. Its table is a copy, since premises may make rows: of a step that is wrong by that alone, so that they are never in the way of a later one.
type checker struct {
	table *formula.Table
	steps []api.Step
}

// wrongStep answers what is wrong with a step, if anything is; those ahead of it are right.
func (c checker) wrongStep(i int) error {
	step := c.steps[i]
	if sequent.Check(c.table, step.Seq) != api.OK {
		return errSequent
	}
	for _, kid := range step.Kids {
		if kid < 0 || kid >= i {
			return errKids
		}
	}
	switch {
	case step.Proved:
		return c.proved(step)
	case step.Rule == api.RuleStuck:
		return c.stuck(step)
	case step.Rule == api.RuleImpImp:
		return c.refutedBehind(step)
	}
	return c.refuted(step)
}

// premises answers a rule's premises, if the rule fits and its formulas have room. A formula that is no row gets a number behind all rows, which no step that is right has in its sequent.
func (c checker) premises(s api.Seq, k api.Rule, main int) ([]api.Seq, error) {
	l, e := rule.Premises(c.table, s, k, main)
	if e != api.OK {
		return nil, errRule
	}
	return l, nil
}

// kids answers what is wrong with the kids of a step that should be of these sequents, in order, and decided as the step is.
func (c checker) kids(step api.Step, want ...api.Seq) error {
	if len(step.Kids) != len(want) {
		return errKids
	}
	for i, s := range want {
		if kid := c.steps[step.Kids[i]]; kid.Seq != s || kid.Proved != step.Proved {
			return errKids
		}
	}
	return nil
}

// proved is for a step that says that all premises are proved.
func (c checker) proved(step api.Step) error {
	l, err := c.premises(step.Seq, step.Rule, step.Main)
	if err != nil {
		return err
	}
	return c.kids(step, l...)
}

// refuted is for a step that says that one premise is refuted, of a rule that can always be tried first.
func (c checker) refuted(step api.Step) error {
	switch step.Rule {
	case api.RuleAndL, api.RuleImpAtom, api.RuleImpBot, api.RuleImpAnd, api.RuleImpOr, api.RuleImpR, api.RuleAndR, api.RuleOrL:
	default:
		return errRule
	}
	l, err := c.premises(step.Seq, step.Rule, step.Main)
	if err != nil {
		return err
	}
	for _, s := range l {
		if c.kids(step, s) == nil {
			return nil
		}
	}
	return errKids
}

// refutedBehind is for a step that says that the second premise of RuleImpImp is refuted. That premise needs no row that the first one may have no room for, so it is not asked of layer 9.
func (c checker) refutedBehind(step api.Step) error {
	fits, _ := rule.Fits(c.table, step.Seq, step.Rule, step.Main)
	if !fits {
		return errRule
	}
	main, _ := c.table.Node(step.Main)
	left, _ := bits.Put(bits.Drop(step.Seq.Left, step.Main), main.R) // a row's number always has a place
	return c.kids(step, api.Seq{Left: left, Goal: step.Seq.Goal})
}

// stuck is for a step that says that no rule helps: the first premise of each choice is refuted.
func (c checker) stuck(step api.Step) error {
	k, _, _ := rule.Apply(c.table, step.Seq)
	if k != api.RuleStuck || step.Main != 0 {
		return errRule
	}
	rules, mains, _ := rule.Choices(c.table, step.Seq)
	var want []api.Seq
	for i := range rules {
		l, err := c.premises(step.Seq, rules[i], mains[i])
		if err != nil {
			return err
		}
		want = append(want, l[0])
	}
	return c.kids(step, want...)
}
