package inline

import (
	"emender/api"
	"emender/mark"
)

// The signs of a line; a star is one only where two stand side by side.
const (
	escape = '\\'
	code   = '`'
	star   = '*'
	em     = '_'
	strong = "**"
)

// turns is the set of marks at a place of a line, and the one that Code has taken the place of.
type turns struct {
	set   int
	ahead int
}

// turn does what the sign of the mark m says.
func (t *turns) turn(m int) {
	switch {
	case m == api.Code && t.set == api.Code:
		t.set = t.ahead
	case m == api.Code:
		t.ahead, t.set = t.set, 0
		fallthrough
	default:
		t.set ^= m
	}
}

// towards answers the marks that are turned, in order, to come to the set.
func (t *turns) towards(set int) []int {
	from := t.set
	var l []int
	switch {
	case from == set:
		return nil
	case set == api.Code:
		return []int{api.Code}
	case from == api.Code:
		from = t.ahead
		l = []int{api.Code}
		fallthrough
	default:
		return append(l, mark.List(from^set)...)
	}
}

// sign answers what turns the mark m.
func sign(m int) string {
	switch m {
	case api.Strong:
		return strong
	case api.Em:
		return string(em)
	}
	return string(code)
}

// isSign tells whether r would be read as more than itself.
func isSign(r rune) bool {
	switch r {
	case escape, code, star, em:
		return true
	}
	return false
}
