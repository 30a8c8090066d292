package types

import "dictum/api"

// checked tells whether a term is a proof of a formula: no error, if it is (P13.2).
func (c *checker) checked(x api.Term, form int) error {
	switch x.Kind {
	case api.TLam:
		return c.checkedLam(x, form)
	case api.TPair:
		return c.checkedPair(x, form)
	case api.TInl, api.TInr:
		return c.checkedSide(x, form)
	case api.TCase:
		return c.checkedCase(x, form)
	case api.TAbort:
		_, err := c.toldJoined(x, api.KBot)
		return err
	case api.TLet:
		return c.checkedLet(x, form)
	}
	return c.checkedTold(x, form)
}

// checkedPart tells whether a term's part i is a proof of a formula.
func (c *checker) checkedPart(x api.Term, i int, form int) error {
	c.way = append(c.way, i)
	err := c.checked(x.Sub[i], form)
	c.way = c.way[:len(c.way)-1]
	return err
}

// checkedWith does so with a name for another formula.
func (c *checker) checkedWith(x api.Term, i int, name string, given int, form int) error {
	defer c.give(name, given)()
	return c.checkedPart(x, i, form)
}

func (c *checker) checkedLam(x api.Term, form int) error {
	n, err := c.joined(form, api.KImp)
	if err != nil {
		return err
	}
	return c.checkedWith(x, 0, x.Name, n.L, n.R)
}

func (c *checker) checkedPair(x api.Term, form int) error {
	n, err := c.joined(form, api.KAnd)
	if err != nil {
		return err
	}
	if err := c.checkedPart(x, 0, n.L); err != nil {
		return err
	}
	return c.checkedPart(x, 1, n.R)
}

// checkedSide is of the two injections.
func (c *checker) checkedSide(x api.Term, form int) error {
	n, err := c.joined(form, api.KOr)
	if err != nil {
		return err
	}
	if x.Kind == api.TInr {
		return c.checkedPart(x, 0, n.R)
	}
	return c.checkedPart(x, 0, n.L)
}

func (c *checker) checkedCase(x api.Term, form int) error {
	n, err := c.toldJoined(x, api.KOr)
	if err != nil {
		return err
	}
	if err := c.checkedWith(x, 1, x.Name, n.L, form); err != nil {
		return err
	}
	return c.checkedWith(x, 2, x.Other, n.R, form)
}

func (c *checker) checkedLet(x api.Term, form int) error {
	given, err := c.toldPart(x, 0)
	if err != nil {
		return err
	}
	return c.checkedWith(x, 1, x.Name, given, form)
}

// checkedTold is of the kinds whose formula is told.
func (c *checker) checkedTold(x api.Term, form int) error {
	told, err := c.told(x)
	if err != nil {
		return err
	}
	if told != form {
		return c.refuse(api.ErrType)
	}
	return nil
}
