package schema

import (
	"emender/api"
	"emender/flat"
	"emender/reg"
)

const (
	nowhere = -1             // the place of the TOpen of the whole, which has none
	noFault = api.MaxDoc + 1 // behind all places
)

// firstFault answers the place of the first token of the document l that can't be there; the end, if more had to come.
// What can't be in one TOpen does not hang on the others, so each is read once, and the first place of all counts.
func (s *Schema) firstFault(l []api.Token) int {
	first := s.faultIn(l, nowhere)
	for i, t := range l {
		if i >= first {
			break // what is opened here may not even be a type
		}
		if t.K == api.TOpen {
			first = min(first, s.faultIn(l, i))
		}
	}
	return first
}

// faultIn answers the place of the first fault of what stands just in the TOpen at i.
func (s *Schema) faultIn(l []api.Token, i int) int {
	in, kids := s.kindAt(l, i), flat.Kids(l, i)
	for n, place := range kids {
		if !s.fits(l[place], in) {
			return min(place, s.wordFault(l, i, kids[:n+1]))
		}
	}
	return s.wordFault(l, i, kids)
}

// wordFault answers where the kids of the TOpen at i stop to be a word, or to begin one.
func (s *Schema) wordFault(l []api.Token, i int, kids []int) int {
	tree, word := s.kindAt(l, i).tree, wordOf(l, kids)
	if reg.Accepts(tree, s.names, word) {
		return noFault
	}
	if n := reg.Begins(tree, s.names, word); n < len(kids) {
		return kids[n]
	}
	if i == nowhere {
		return len(l)
	}
	return flat.Partner(l, i)
}

// fits tells whether t may stand in a type, whatever stands beside it.
func (s *Schema) fits(t api.Token, in *kind) bool {
	if t.K == api.TRune {
		return in.takesRune(t)
	}
	k := s.typeOf(t.T)
	return k != nil && k.mayBe(t)
}

// kindAt answers the type of the TOpen at i, which the schema has, or the whole.
func (s *Schema) kindAt(l []api.Token, i int) *kind {
	if i == nowhere {
		return &s.kinds[0]
	}
	return &s.kinds[l[i].T]
}

// wordOf answers the types of what stands at the places kids; TRunes are of the type text by their T.
func wordOf(l []api.Token, kids []int) []int {
	var word []int
	for _, place := range kids {
		word = append(word, l[place].T)
	}
	return word
}
