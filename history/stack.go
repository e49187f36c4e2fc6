package history

import (
	"emender/api"
	"emender/pos"
	"emender/remap"
	"emender/step"
)

// stack is steps, the top one last: it may be done at the document, the one below it at what comes of that, and so on.
type stack []api.Step

// cut answers the top of l, which has one, and those below it, without room above them: what comes there is written elsewhere.
func (l stack) cut() (api.Step, stack) {
	n := len(l) - 1
	return l[n], l[:n:n]
}

// behind answers l as it is where x has been done at the document ahead of it, and how many of l are lost.
func (l stack) behind(x api.Step) (stack, int) {
	if len(l) == 0 {
		return nil, 0
	}
	top, below := l.cut()
	sent, ok := through(top, x)
	if !ok {
		// What is lost is not gone through: those below meet x as it is.
		rest, lost := below.behind(x)
		return rest, lost + 1
	}
	lost := 0
	if next, ok := through(x, top); ok {
		below, lost = below.behind(next)
	}
	return append(below, sent), lost
}

// through answers s as it is behind other, and whether there is still something that it stands at.
func through(s api.Step, other api.Step) (api.Step, bool) {
	ranges, _ := step.Map(other) // what was done once has a map, wherever it was sent
	m := pos.New()
	m.Add(ranges)
	return remap.Step(s, m, 0)
}
