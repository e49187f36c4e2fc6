package flat

import (
	"emender/api"
)

// nowhere stands for the place of a token that is not there.
const nowhere = -1

// stack holds the places of the TOpens that are open, the innermost on top.
// All that a document opens has room in the array; of tokens that are no document any number may be open, and what is deeper goes into rest.
type stack struct {
	low  [api.MaxDeep]int
	rest []int
	size int
}

// pass goes over the token t at place; a TClose with nothing open does nothing.
func (s *stack) pass(place int, t api.Token) {
	switch t.K {
	case api.TOpen:
		s.push(place)
	case api.TClose:
		s.pop()
	}
}

func (s *stack) push(place int) {
	if s.size < len(s.low) {
		s.low[s.size] = place
	} else {
		s.rest = append(s.rest, place)
	}
	s.size++
}

func (s *stack) pop() {
	if s.size == 0 {
		return
	}
	s.size--
	if s.size >= len(s.low) {
		s.rest = s.rest[:len(s.rest)-1]
	}
}

// top answers the place of the innermost, or nowhere.
func (s *stack) top() int {
	switch {
	case s.size == 0:
		return nowhere
	case s.size <= len(s.low):
		return s.low[s.size-1]
	}
	return s.rest[len(s.rest)-1]
}
