package fit

import (
	"slices"

	"emender/api"
)

// way is one in which what is pasted may fit; its step need not be allowed.
type way interface {
	step() api.Step
}

// pasted is what stands to be fitted: a slice in the place of what is between from and to.
type pasted struct {
	from  int
	to    int
	slice []api.Token
}

// with answers the SReplace that puts tokens where p is pasted.
func (p pasted) with(tokens []api.Token) api.Step {
	return api.Step{K: api.SReplace, From: p.from, To: p.to, Slice: tokens}
}

type asItIs struct{ pasted }

func (w asItIs) step() api.Step {
	return w.with(slices.Clone(w.slice))
}

type asClosed struct{ pasted }

func (w asClosed) step() api.Step {
	return w.with(Closed(w.slice))
}

type asText struct {
	pasted
	spec   api.Spec
	inside bool // is there a type around, of which spec tells?
}

func (w asText) step() api.Step {
	if !w.inside {
		return w.with(nil)
	}
	return w.with(Plain(w.slice, w.spec))
}

type asNothing struct{ pasted }

func (w asNothing) step() api.Step {
	return w.with(nil)
}
