package pos

import (
	"slices"

	"emender/api"
)

const (
	mostMaps = 4096
	noMirror = -1
)

// Mapping is maps in a row, of which one may undo another.
type Mapping struct {
	links []link
	made  bool
}

// link is a map of a mapping.
type link struct {
	ranges []api.Range
	mirror int // which map undoes it, or is undone by it
}

// New answers a mapping without maps.
func New() *Mapping {
	return &Mapping{made: true}
}

// Add puts the map r behind the others.
func (m *Mapping) Add(r []api.Range) api.Errno {
	if !m.isMade() {
		return api.ErrZero
	}
	if !Right(r) || len(m.links) >= mostMaps {
		return api.ErrForm
	}
	m.links = append(m.links, link{slices.Clone(r), noMirror})
	return api.OK
}

// Mirror says that the map j undoes the map i.
func (m *Mapping) Mirror(i int, j int) api.Errno {
	if !m.isMade() {
		return api.ErrZero
	}
	if i < 0 || i >= j || j >= len(m.links) || m.hasMirror(i) || m.hasMirror(j) {
		return api.ErrArg
	}
	m.links[i].mirror, m.links[j].mirror = j, i
	return api.OK
}

// Map answers where the place p goes through the maps from from on; what one map takes and its mirror brings back is not gone.
func (m *Mapping) Map(from int, p int, side int) (api.Spot, api.Errno) {
	if !m.isMade() {
		return api.Spot{}, api.ErrZero
	}
	if from < 0 || from > len(m.links) || !isWithin(p) {
		return api.Spot{}, api.ErrArg
	}
	gone := false
	for i := from; i < len(m.links); i++ {
		spot := send(m.links[i].ranges, p, side)
		if back, ok := m.recovered(i, spot); ok {
			p, i = back, m.links[i].mirror
		} else {
			p, gone = spot.At, gone || spot.Gone
		}
		if !isWithin(p) {
			return api.Spot{}, api.ErrArg
		}
	}
	return api.Spot{At: p, Gone: gone, In: noRange}, api.OK
}

// Len answers how many maps there are.
func (m *Mapping) Len() int {
	if !m.isMade() {
		return 0
	}
	return len(m.links)
}

func (m *Mapping) isMade() bool {
	return m != nil && m.made
}

func (m *Mapping) hasMirror(i int) bool {
	return m.links[i].mirror != noMirror
}

// recovered answers where what the map i told as spot comes back behind the mirror of i, and whether it does.
func (m *Mapping) recovered(i int, spot api.Spot) (int, bool) {
	j := m.links[i].mirror
	if j < i || spot.In == noRange {
		return 0, false // a mirror that is ahead has been gone through already
	}
	undo := m.links[j].ranges
	if spot.In >= len(undo) {
		return 0, false
	}
	back, e := Recover(undo, spot.In, min(spot.Off, undo[spot.In].New))
	return back, e == api.OK
}
