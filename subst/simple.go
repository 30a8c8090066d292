package subst

import (
	"dictum/api"
	"dictum/formula"
)

// Simple leaves out what says nothing (P7.5).
func Simple(t *formula.Table, id int) (int, api.Errno) {
	if e := refused(t, id); e != api.OK {
		return 0, e
	}
	return anew(t, id, func(_ int, row api.Node) (int, api.Errno) { return simpler(t, row) })
}

// simpler is the chapter's table of rows. Where false or true is the image since a part's image is it, that part's is told, so that nothing has to be put.
func simpler(t *formula.Table, row api.Node) (int, api.Errno) {
	l, r := row.L, row.R
	switch row.Kind {
	case api.KAnd:
		switch {
		case isFalse(t, l):
			return l, api.OK
		case isFalse(t, r), isTrue(t, l):
			return r, api.OK
		case isTrue(t, r), l == r:
			return l, api.OK
		}
	case api.KOr:
		switch {
		case isTrue(t, l):
			return l, api.OK
		case isTrue(t, r), isFalse(t, l):
			return r, api.OK
		case isFalse(t, r), l == r:
			return l, api.OK
		}
	case api.KImp:
		switch {
		case isFalse(t, l), isTrue(t, r), l == r:
			return truth(t)
		case isTrue(t, l):
			return r, api.OK
		}
	}
	return t.Put(row)
}

func isFalse(t *formula.Table, id int) bool {
	row, _ := t.Node(id)
	return row.Kind == api.KBot
}

func isTrue(t *formula.Table, id int) bool {
	row, _ := t.Node(id)
	return row.Kind == api.KImp && isFalse(t, row.L) && isFalse(t, row.R)
}

// truth puts false -> false.
func truth(t *formula.Table) (int, api.Errno) {
	bot, e := t.Bot()
	if e != api.OK {
		return 0, e
	}
	return t.Imp(bot, bot)
}
