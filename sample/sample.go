// Package sample writes down tokens, steps, texts and mixed numbers for the tests of all layers; the program does not call it.
package sample

import (
	"slices"
	"strings"

	"emender/api"
)

// Tokens answers those of a text: < opens a para, # a head of 1, ( a quote, ` a block of code, [ a list, { an item, > ) ' ] } end, _ is a rule, ! a wrong token; B is a b that is Strong, E an e that is Em, D a d that is both, C a c that is Code; others are themselves.
func Tokens(s string) []api.Token {
	var l []api.Token
	for _, r := range s {
		l = append(l, token(r))
	}
	return l
}

func token(r rune) api.Token {
	switch r {
	case '<':
		return Open(api.Para, 0)
	case '#':
		return Open(api.Head, 1)
	case '(':
		return Open(api.Quote, 0)
	case '`':
		return Open(api.Block, 0)
	case '[':
		return Open(api.List, 0)
	case '{':
		return Open(api.Item, 0)
	case '>', ')', '\'', ']', '}':
		return api.Token{K: api.TClose}
	case '_':
		return api.Token{K: api.TLeaf, T: api.Rule}
	case '!':
		return api.Token{N: -1}
	case 'B':
		return api.Token{N: 'b', M: api.Strong}
	case 'E':
		return api.Token{N: 'e', M: api.Em}
	case 'D':
		return api.Token{N: 'd', M: api.Strong + api.Em}
	case 'C':
		return api.Token{N: 'c', M: api.Code}
	}
	return api.Token{N: int(r)}
}

// Open answers a TOpen of the type t with n.
func Open(t int, n int) api.Token {
	return api.Token{K: api.TOpen, T: t, N: n}
}

// Replace answers the SReplace that puts the tokens of slice between from and to.
func Replace(from int, to int, slice string) api.Step {
	return api.Step{K: api.SReplace, From: from, To: to, Slice: Tokens(slice)}
}

// Around answers the SAround that puts the tokens of ahead and of behind around its gap.
func Around(from int, gapFrom int, gapTo int, to int, ahead string, behind string) api.Step {
	return api.Step{
		K: api.SAround, From: from, To: to, GapFrom: gapFrom, GapTo: gapTo,
		Slice: Tokens(ahead + behind), Insert: len(Tokens(ahead)),
	}
}

// Rows answers all rows of at most most of what is in alphabet.
func Rows[T any](alphabet []T, most int) [][]T {
	all := [][]T{nil}
	last := all
	for range most {
		var next [][]T
		for _, l := range last {
			for _, one := range alphabet {
				next = append(next, append(slices.Clone(l), one))
			}
		}
		all = append(all, next...)
		last = next
	}
	return all
}

// Texts answers all texts of at most most pieces.
func Texts(pieces []string, most int) []string {
	var all []string
	for _, row := range Rows(pieces, most) {
		all = append(all, strings.Join(row, ""))
	}
	return all
}

// Mixed answers n numbers below most in no plain order, of one seed each time the same ones.
func Mixed(seed uint32, n int, most int) []int {
	l := make([]int, n)
	for i := range l {
		seed = seed*1664525 + 1013904223
		l[i] = int(seed>>8) % most
	}
	return l
}
