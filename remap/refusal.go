package remap

import (
	"errors"
	"strconv"

	"emender/api"
)

var errGone = errors.New("all that the step stood at is gone")

// refusal is a step that can't be done: which of a row it is, and why.
type refusal struct {
	which int
	why   error
}

func (r refusal) Error() string {
	return "step " + strconv.Itoa(r.which) + ": " + r.why.Error()
}

func (r refusal) Unwrap() error {
	return r.why
}

// number tells which of the layers' errors err is, however it is wrapped.
func number(err error) api.Errno {
	for e := api.ErrArg; e <= api.ErrOld; e++ {
		if errors.Is(err, e) {
			return e
		}
	}
	return api.OK
}
