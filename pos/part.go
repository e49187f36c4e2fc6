package pos

import (
	"iter"

	"emender/api"
)

const noRange = -1 // the In of a place that is told to be in none

// part is a range of a map: which one, and by how much those ahead of it move what is behind them.
type part struct {
	api.Range
	in   int
	move int
}

// parts goes over the ranges of the map m.
func parts(m []api.Range) iter.Seq[part] {
	return func(yield func(part) bool) {
		move := 0
		for in, r := range m {
			if !yield(part{r, in, move}) {
				return
			}
			move += r.New - r.Old
		}
	}
}

// send answers where the place p goes through the map m; both are right.
func send(m []api.Range, p int, side int) api.Spot {
	move := 0
	for r := range parts(m) {
		if p < r.At {
			break
		}
		if p <= r.end() {
			return r.spot(p, side)
		}
		move = r.move + r.New - r.Old
	}
	return api.Spot{At: p + move, In: noRange}
}

// end answers the place behind what goes, ahead of the change.
func (r part) end() int {
	return r.At + r.Old
}

// begin answers the place ahead of what comes, behind the change.
func (r part) begin() int {
	return r.At + r.move
}

// spot answers where the place p goes, which is in r.
func (r part) spot(p int, side int) api.Spot {
	spot := api.Spot{At: r.goal(p, side), Gone: r.isInner(p), In: r.in, Off: p - r.At}
	if r.isOuter(p, side) {
		spot.In, spot.Off = noRange, 0
	}
	return spot
}

// goal answers the end of what comes to which the place p goes: its own one, if it has one, else by the side.
func (r part) goal(p int, side int) int {
	at := r.begin()
	switch {
	case r.Old == 0 || r.isInner(p):
		if isLeft(side) {
			break
		}
		fallthrough
	case p == r.end():
		at += r.New
	}
	return at
}

// isInner tells whether all about the place p goes.
func (r part) isInner(p int) bool {
	return r.At < p && p < r.end()
}

// isOuter tells whether what the place p looks at stands outside of r: p is at an end, with the side away from r.
func (r part) isOuter(p int, side int) bool {
	if isLeft(side) {
		return p == r.At
	}
	return p == r.end()
}

func isLeft(side int) bool {
	return side < 0
}
