package remap

import (
	"slices"

	"emender/api"
	"emender/step"
)

// Sides to which a place goes.
const (
	left  = -1
	right = 1
)

// route answers where a place goes to a side, from a map on.
type route func(from int, p int, side int) (api.Spot, api.Errno)

// send answers s at the places to which by brings it, in memory of its own.
func send(s api.Step, by route, from int) (api.Step, error) {
	if e := step.Check(s); e != api.OK {
		return api.Step{}, e
	}
	s, err := moved(s, by, from)
	if err != nil {
		return api.Step{}, err
	}
	if e := step.Check(s); e != api.OK {
		return api.Step{}, e
	}
	s.Slice = slices.Clone(s.Slice)
	return s, nil
}

// moved answers the right step s with the places to which by brings it; they need not fit one another. The ends go inwards, so that what others put beside a step stays out of it.
func moved(s api.Step, by route, from int) (api.Step, error) {
	start, e := by(from, s.From, right)
	if e != api.OK {
		return s, e
	}
	end, e := by(from, s.To, left)
	if e != api.OK {
		return s, e
	}
	if start.Gone && end.Gone {
		return s, errGone
	}
	s.From, s.To = start.At, end.At
	switch s.K {
	case api.SReplace:
		s.To = max(s.From, s.To)
	case api.SAround:
		return movedGap(s, by, from)
	default:
		if s.To <= s.From {
			return s, errGone
		}
	}
	return s, nil
}

// movedGap answers s with its gap where by brings that; it goes outwards, so that what others put at its ends stays in it.
func movedGap(s api.Step, by route, from int) (api.Step, error) {
	start, e := by(from, s.GapFrom, left)
	if e != api.OK {
		return s, e
	}
	end, e := by(from, s.GapTo, right)
	if e != api.OK {
		return s, e
	}
	s.GapFrom, s.GapTo = start.At, end.At
	return s, nil
}
