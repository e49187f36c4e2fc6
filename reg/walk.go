package reg

import (
	"math"

	"emender/api"
)

// places is a set of places.
type places map[int]struct{}

// walk is how far a word has been read: here are all the places that it may have come to, none if it begins no word.
type walk struct {
	l     []place
	here  places
	spare places // empty: what is filled next
}

// walked answers how word is read, and how much of it begins a word; nothing is read where Check refuses.
func walked(e api.Expr, g []api.Group, word []int) (*walk, int) {
	if Check(e, g) != api.OK {
		return &walk{}, 0
	}
	p := &plan{g, []place{{}}}
	first := p.lay(e, end)
	w := &walk{p.l, places{}, places{}}
	reach(w.l, w.here)(first)
	for i, t := range word {
		w.take(t)
		if len(w.here) == 0 {
			return w, i
		}
	}
	return w, len(word)
}

// reach answers what adds a place to a set, with all that forks reach from it.
func reach(l []place, s places) func(int) {
	var add func(int)
	add = func(at int) {
		if _, known := s[at]; known {
			return
		}
		s[at] = struct{}{}
		if l[at].types == 0 {
			for _, next := range l[at].next {
				add(next)
			}
		}
	}
	return add
}

// take reads one type more.
// Each place that is done is deleted, so that the set that is left can be filled anew.
func (w *walk) take(t int) {
	add := reach(w.l, w.spare)
	for at := range w.here {
		delete(w.here, at)
		if w.l[at].takes(t) {
			add(w.l[at].next[0])
		}
	}
	w.here, w.spare = w.spare, w.here
}

func (w *walk) mayEnd() bool {
	_, is := w.here[end]
	return is
}

// types answers what the places here that fit would take.
func (w *walk) types(fits func(place) bool) uint16 {
	var types uint16
	for at := range w.here {
		if fits(w.l[at]) {
			types |= w.l[at].types
		}
	}
	return types
}

// least answers how few types there are from here to the end.
func (w *walk) least() int {
	least := math.MaxInt
	for at := range w.here {
		least = min(least, w.l[at].least)
	}
	return least
}
