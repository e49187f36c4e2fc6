package reg

import (
	"slices"

	"emender/api"
)

// end is the place behind a whole word.
const end = 0

// place is where one may stand in an expression.
// One with types takes one of them and goes on; one without is a fork, from which all in next are reached at once.
type place struct {
	types uint16 // the type t as bit t
	next  []int
	least int // the fewest types from here to the end
}

func (p place) takes(t int) bool {
	return isType(t) && p.types>>t&1 != 0
}

// plan is the places of an expression, the end first.
type plan struct {
	groups []api.Group
	l      []place
}

// lay answers the place where e begins, if what comes behind it begins at next.
// It lays the last first, so that how far it is to the end is known of all that is laid.
func (p *plan) lay(e api.Expr, next int) int {
	switch e.K {
	case api.EName:
		return p.add(place{typesOf(e.Name, p.groups), []int{next}, p.l[next].least + 1})
	case api.ESeq:
		for _, inner := range slices.Backward(e.L) {
			next = p.lay(inner, next)
		}
	case api.EAlt:
		var ways []int
		for _, inner := range e.L {
			ways = append(ways, p.lay(inner, next))
		}
		return p.fork(ways)
	case api.EOpt:
		return p.fork([]int{next, p.lay(e.L[0], next)})
	case api.EStar:
		again, _ := p.loop(e.L[0], next)
		return again
	case api.EPlus:
		_, first := p.loop(e.L[0], next)
		return first
	}
	return next
}

// loop answers the place behind e, from which e may come again, and that where e begins.
func (p *plan) loop(e api.Expr, next int) (int, int) {
	again := p.fork([]int{next}) // going round once more is never a shorter way to the end
	first := p.lay(e, again)
	p.l[again].next = append(p.l[again].next, first)
	return again, first
}

// fork answers a new place from which all of ways are reached.
func (p *plan) fork(ways []int) int {
	least := p.l[ways[0]].least
	for _, way := range ways {
		least = min(least, p.l[way].least)
	}
	return p.add(place{0, ways, least})
}

func (p *plan) add(x place) int {
	p.l = append(p.l, x)
	return len(p.l) - 1
}
