package caret

import (
	"iter"

	"emender/api"
	"emender/schema"
)

const (
	text    = 0 // the type
	toLeft  = -1
	toRight = 1
)

// wayOf answers which way a number points.
func wayOf(n int) int {
	if n < 0 {
		return toLeft
	}
	return toRight
}

func isPlace(size int, p int) bool {
	return 0 <= p && p <= size
}

// outwards goes over the places of size tokens from at on, the nearer ones first, of two as near the one that way.
func outwards(size int, at int, way int) iter.Seq[int] {
	return func(yield func(int) bool) {
		if !yield(at) {
			return
		}
		for far := 1; far <= size; far++ {
			for _, p := range [2]int{at + way*far, at - way*far} {
				if isPlace(size, p) && !yield(p) {
					return
				}
			}
		}
	}
}

// beyond goes over the places behind at that way, and tells of each whether it is a text place.
func beyond(c *schema.Schema, l []api.Token, at int, way int) iter.Seq2[int, bool] {
	return func(yield func(int, bool) bool) {
		is := c.May(l, at, text)
		for p := at + way; isPlace(len(l), p); p += way {
			// On either side of a TRune one more makes the same word, so that the schema need not read all of l again.
			if l[min(p, p-way)].K != api.TRune {
				is = c.May(l, p, text)
			}
			if !yield(p, is) {
				return
			}
		}
	}
}
