package types

import "dictum/api"

// told answers the formula of which a term is a proof (P13.1).
func (c *checker) told(x api.Term) (int, error) {
	switch x.Kind {
	case api.TVar:
		return c.toldName(x.Name)
	case api.TApp:
		return c.toldApp(x)
	case api.TFst:
		n, err := c.toldJoined(x, api.KAnd)
		return n.L, err
	case api.TSnd:
		n, err := c.toldJoined(x, api.KAnd)
		return n.R, err
	case api.TThe:
		return c.toldThe(x)
	case api.TLet:
		return c.toldLet(x)
	case api.TCase:
		return c.toldCase(x)
	}
	return 0, c.refuse(api.ErrUnsaid)
}

// toldPart answers the formula of a term's part i.
func (c *checker) toldPart(x api.Term, i int) (int, error) {
	c.way = append(c.way, i)
	form, err := c.told(x.Sub[i])
	c.way = c.way[:len(c.way)-1]
	return form, err
}

// toldWith does so with a name for a formula.
func (c *checker) toldWith(x api.Term, i int, name string, form int) (int, error) {
	defer c.give(name, form)()
	return c.toldPart(x, i)
}

// toldJoined answers the row of the formula of a term's first part; a refusal, unless it is of that kind.
func (c *checker) toldJoined(x api.Term, k api.Kind) (api.Node, error) {
	form, err := c.toldPart(x, 0)
	if err != nil {
		return api.Node{}, err
	}
	return c.joined(form, k)
}

func (c *checker) toldName(name string) (int, error) {
	form, ok := c.stands[name]
	if !ok {
		return 0, c.refuse(api.ErrName)
	}
	return form, nil
}

func (c *checker) toldApp(x api.Term) (int, error) {
	n, err := c.toldJoined(x, api.KImp)
	if err != nil {
		return 0, err
	}
	if err := c.checkedPart(x, 1, n.L); err != nil {
		return 0, err
	}
	return n.R, nil
}

func (c *checker) toldThe(x api.Term) (int, error) {
	if c.lacks(x.Form) {
		return 0, c.refuse(api.ErrForm)
	}
	if err := c.checkedPart(x, 0, x.Form); err != nil {
		return 0, err
	}
	return x.Form, nil
}

func (c *checker) toldLet(x api.Term) (int, error) {
	form, err := c.toldPart(x, 0)
	if err != nil {
		return 0, err
	}
	return c.toldWith(x, 1, x.Name, form)
}

func (c *checker) toldCase(x api.Term) (int, error) {
	n, err := c.toldJoined(x, api.KOr)
	if err != nil {
		return 0, err
	}
	first, err := c.toldWith(x, 1, x.Name, n.L)
	if err != nil {
		return 0, err
	}
	second, err := c.toldWith(x, 2, x.Other, n.R)
	if err != nil {
		return 0, err
	}
	if first != second {
		return 0, c.refuse(api.ErrType)
	}
	return first, nil
}
