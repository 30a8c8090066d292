package decide

import (
	"errors"
	"strconv"

	"dictum/api"
)

// refusal is what a lower layer has refused, and where, if it is a text.
type refusal struct {
	fault api.Fault
}

func (r *refusal) Error() string {
	return "refused with error " + strconv.Itoa(int(r.fault.Code))
}

// refused is a lower layer's error on its way up; nil of none.
func refused(e api.Errno) error {
	return refusedAt(api.Fault{Code: e})
}

// refusedAt is a lower layer's fault on its way up; nil of none.
func refusedAt(f api.Fault) error {
	if f.Code == api.OK {
		return nil
	}
	return &refusal{fault: f}
}

// noRoom is as refusedAt, where a table that is full ends the decision as a search that visits too much does.
func noRoom(f api.Fault) error {
	if f.Code == api.ErrForms {
		return refused(api.ErrBudget)
	}
	return refusedAt(f)
}

// asked answers what an error that came up tells; no fault of none.
func asked(err error) api.Fault {
	var r *refusal
	if errors.As(err, &r) {
		return r.fault
	}
	return api.Fault{}
}
